/-
  The law of P9.1, P9.2, P9.4: it returns true, whatever terms, bytes and texts there are. Condition: the arguments read as data.
-/
import Derived.Test.YtjogjmkfkmbjdaaBlmAwake
import Derived.Test.YtjogjmkfkmbjdaaBlmFew
import Derived.Test.YtjogjmkfkmbjdaaBlmRMay
import Derived.Test.YtjogjmkfkmbjdaaBlmROf
set_option linter.unusedVariables false
namespace Go.Proofs.Ytjogjmkfkmbjdaa.BL
open Go.RowKit Go.Proofs.Ytjogjmkfkmbjdaa.MM Go.Proofs.Ytjogjmkfkmbjdaa.BM

set_option maxRecDepth 100000 in
set_option maxHeartbeats 8000000 in
theorem of_short (v0 v1 v2 : Value) (ls : List (List UInt8)) (b : List UInt8) (qs : List (List UInt8)) (w : World) (h0 : TRow w v0 ls) (hb : BRow w v1 b) (h1 : TRow w v2 qs) (hsh : (b.take 2000).length < 8) :
    Calls Try.prog 4 #[v0, v1, v2] w fun e w' => e = .returned (.bool true) ∧ Below w.heap.size w w' := by
  have HFEW := Lib.hid (fun W (hb : Below w.heap.size w W) => few_any v0 ls W (TRow.below h0 hb))
  have HFEW2 := Lib.hid (fun W (hb : Below w.heap.size w W) => few_any v2 qs W (TRow.below h1 hb))
  have hfl := fewL_len ls
  have hfe := fun s (h : s ∈ fewL ls) => fewL_each h
  obtain ⟨fs, hfs⟩ : ∃ fs, fewL ls = fs := ⟨_, rfl⟩
  rw [hfs] at HFEW hfl hfe
  have hgl := fewL_len qs
  have hge := fun s (h : s ∈ fewL qs) => fewL_each h
  obtain ⟨gs, hgs⟩ : ∃ gs, fewL qs = gs := ⟨_, rfl⟩
  rw [hgs] at HFEW2 hgl hge
  have HFE := Lib.hid (fun s (h : s ∈ fs) => hfe s h)
  have HGE := Lib.hid (fun k (hk : k < gs.length) => hge gs[k] (List.getElem_mem hk))
  have hlen := addA_all (newL fs.length) fs
  rw [newL_len] at hlen
  have hrl := roomL_le fs.length
  rw [← hlen] at hrl
  have HOF := Lib.hid (fun v W (ht : TRow W v fs) => cof_any v fs W ht (by omega) (fun s hs => by have := HFE.out s hs; omega))
  have HROF := Lib.hid (fun v W (ht : TRow W v fs) => rof_any v fs W ht (by omega) (fun s hs => by have := HFE.out s hs; omega))
  obtain ⟨M, hM⟩ : ∃ M, (addA (newL fs.length) fs).1 = M := ⟨_, rfl⟩
  rw [hM] at HOF HROF hrl
  have HLO := Lib.hid hrl.1
  have HHI := Lib.hid hrl.2
  -- the bytes
  obtain ⟨bp, bcap, rfl, hbc, hbm⟩ := BIn.shape hb
  unfold maxLen at hbm
  obtain ⟨m, hm⟩ : ∃ m, min b.length 2000 = m := ⟨_, rfl⟩
  have hml : (b.take 2000).length = m := by rw [List.length_take]; omega
  have e1 : (if (2000 : Int) < (b.length : Int) then (2000 : Int) else (b.length : Int)) = (m : Int) := by split <;> omega
  have hbt : BRow w (.slice bp m bcap) (b.take 2000) := by
    have h := BIn.take hb m (by omega)
    have e2 : b.take m = b.take 2000 := by
      rw [← hm]
      by_cases h : b.length ≤ 2000
      · rw [Nat.min_eq_left h, List.take_length, List.take_of_length_le h]
      · rw [Nat.min_eq_right (by omega)]
    rw [e2] at h
    exact h
  have HBT := Lib.hid hbt
  have i1 : m ≤ b.length := by omega
  have i2 : m ≤ bcap := by omega
  have i3 : (m : Int) ≤ (bcap : Int) := by omega
  obtain ⟨nb, hnb⟩ : ∃ nb, b.length = nb := ⟨_, rfl⟩
  rw [hnb] at e1 hbc i1 ⊢
  obtain ⟨c, hc⟩ : ∃ c, b.take 2000 = c := ⟨_, rfl⟩
  rw [hc] at HBT hml hsh
  have hm8 : m < 8 := by omega
  have hc8 : c.length < 8 := by omega
  have HREAD := Lib.hid (fun W (h : BRow W (.slice bp m bcap) c) => cread_no _ c W h hc8)
  have HRREAD := Lib.hid (fun W (h : BRow W (.slice bp m bcap) c) => rread_no _ c W h hc8)
  obtain ⟨tp0, tc0, rfl, hx0, hx1⟩ := TIn.shape h0
  obtain ⟨tp2, tc2, rfl, hy0, hy1⟩ := TIn.shape h1
  obtain ⟨wd, hwd⟩ : ∃ wd, w.drew = wd := ⟨_, rfl⟩
  have HBD := Lib.hid (show Below w.heap.size w wd by rw [← hwd]; exact (Below.refl _ _).drew)
  have HWD := Lib.hid hwd
  clear h0 hb h1 hsh hfs hgs hfe hge hlen hrl hM hm hml hbt hnb hc hc8 hwd
  go_enter Try.func4, Try.ntmps4
  go_wp2_with fail
  refine RG.begin_ [(0, true), (2, true), (4, true), (5, true), (6, true), (7, true), (8, true), (1, false), (3, false), (9, true), (10, true), (11, true)] (by kernel_rfl) (by kernel_rfl) rfl (by kernel_rfl) (fun _ _ d _ _ h => by cases d <;> exact h) ?_
  simp only [RG.ordered, List.map_cons, List.map_nil, List.getElem?_toArray, List.getElem?_cons_succ, List.getElem?_cons_zero]
  rw [HWD.out]
  repeat (refine RG.take (by rfl) (by intro W hW; go_simp; with_reducible rfl) ?_; simp only [Act.put, List.setIfInBounds_toArray, List.set_cons_zero, List.set_cons_succ])
  refine RG.alone (by rfl) (fun K hK => ?_)
  go_simp
  refine (HFEW.out wd HBD.out).mono ?_
  rintro e w1 ⟨v3, rfl, ho1, b1⟩
  go_simp
  refine hK.out _ _ b1 ?_
  clear hK K
  have HB1 := Lib.hid (HBD.out.trans (b1.mono HBD.out.size))
  have HT1 := Lib.hid ho1
  clear ho1 b1 HFEW
  refine RG.alone (by rfl) (fun K hK => ?_)
  go_simp
  refine (HFEW2.out w1 HB1.out).mono ?_
  rintro e w2 ⟨v4, rfl, ho2, b2⟩
  go_simp
  refine hK.out _ _ b2 ?_
  clear hK K
  have HB2 := Lib.hid (HB1.out.trans (b2.mono HB1.out.size))
  have HT2 : Hid (TRow w2 v3 fs) := Lib.hid (HT1.out.keep b2).trow
  have HU2 : Hid (TIn w2.heap.size w2 v4 gs) := Lib.hid ho2.trow
  have HC2 : Hid (BRow w2 (.slice bp m bcap) c) := Lib.hid (HBT.out.below HB2.out)
  clear ho2 b2 HFEW2 HB1 HT1
  repeat (refine RG.take (by rfl) (by intro W hW; go_simp; with_reducible rfl) ?_; simp only [Act.put, List.setIfInBounds_toArray, List.set_cons_zero, List.set_cons_succ])
  refine RG.done ?_
  obtain ⟨p3, tc3, rfl, _, _⟩ := TIn.shape HT2.out
  obtain ⟨p4, tc4, rfl, _, _⟩ := TIn.shape HU2.out
  go_wp2_with fail
  refine (HOF.out _ _ HT2.out).mono ?_
  rintro e w3 ⟨g, b, cap, rfl, hf3, hg3, hbb3, hb3⟩
  have HB3 := Lib.hid hb3
  have HF3 := Lib.hid hf3
  clear hf3 hb3
  go_wp2_with fail
  refine (HROF.out _ _ (HT2.out.below HB3.out)).mono ?_
  rintro e w4 ⟨v5, rfl, hr4, hb4⟩
  obtain ⟨p5, cp5, rfl, _, _⟩ := hr4.shape
  obtain ⟨mn, hmn⟩ : ∃ mn, M.length = mn := ⟨_, rfl⟩
  rw [hmn] at hr4 ⊢
  have HMN := Lib.hid hmn
  have hg6 := heap_alloc_new w4 (.cells #[.slice p5 mn cp5] 30)
  have hb6 : Below w4.heap.size w4 (w4.alloc (.cells #[.slice p5 mn cp5] 30)) := (Below.refl _ _).alloc (Nat.le_refl _) _
  have hb36 := hb4.trans (hb6.mono hb4.size)
  have HF6 := Lib.hid (HF3.out.below hb36)
  have HR6 := Lib.hid (hr4.below hb6)
  have HB6 := Lib.hid (HB3.out.trans (hb36.mono HB3.out.size))
  obtain ⟨W6, hW6⟩ : ∃ W6, w4.alloc (.cells #[.slice p5 mn cp5] 30) = W6 := ⟨_, rfl⟩
  rw [hW6] at hg6 HF6 HR6 HB6
  obtain ⟨c8, hc8⟩ : ∃ c8, w4.heap.size = c8 := ⟨_, rfl⟩
  have HWC := Lib.hid hc8
  rw [hc8] at hg6
  have HG6 := Lib.hid hg6
  have HW6 := Lib.hid hW6
  clear hr4 hb4 hg6 hb6 hb36 hW6 hc8 HB3 HF3 hmn
  go_wp2_with fail
  rw [HW6.out, HWC.out]
  obtain ⟨wd6, hwd6⟩ : ∃ wd, W6.drew = wd := ⟨_, rfl⟩
  have hd6 : Below W6.heap.size W6 wd6 := by rw [← hwd6]; exact (Below.refl _ _).drew
  have HWD6 := Lib.hid hwd6
  have HGG := Lib.hid (fun W (h : Below W6.heap.size W6 W) => (h.block c8 (Array.getElem?_eq_some_iff.1 HG6.out).1).trans HG6.out)
  have HRR := Lib.hid (fun W (h : Below W6.heap.size W6 W) => BRow.below HR6.out h)
  have HFF := Lib.hid (fun W (h : Below W6.heap.size W6 W) => FAt.below HF6.out h)
  have HCC := Lib.hid (fun W (h : Below W6.heap.size W6 W) => show W.cell? ⟨c8, 0, none⟩ = some (.slice p5 mn cp5) by rw [cell_of_row W c8 0 _ _ _ (HGG.out W h)]; rfl)
  have HBY := Lib.hid (fun W (h : Below W6.heap.size W6 W) => cbytes_any g b cap M W (HFF.out W h))
  have HD6 := Lib.hid hd6
  have HC6 := Lib.hid (fun W (h : Below W6.heap.size W6 W) => BRow.below HC2.out (HB6.out.trans (h.mono HB6.out.size)))
  clear hwd6 hd6 HG6 HR6 HF6
  go_wp2_with fail
  refine RG.begin_ [(0, true), (1, true), (2, true), (3, true), (6, true), (7, true), (8, true), (4, false), (5, true), (9, true), (10, true), (11, true), (12, false), (13, true), (14, true)] (by kernel_rfl) (by kernel_rfl) rfl (by kernel_rfl) (fun _ _ d _ _ h => by cases d <;> exact h) ?_
  simp only [RG.ordered, List.map_cons, List.map_nil, List.getElem?_toArray, List.getElem?_cons_succ, List.getElem?_cons_zero]
  rw [HWD6.out]
  repeat (refine RG.take (by rfl) (by intro W hW; have g1 := HCC.out W (RG.Grew.trans HD6.out hW); have g2 := BIn.conv (HRR.out W (RG.Grew.trans HD6.out hW)); go_simp; with_reducible rfl) ?_; simp only [Act.put, List.setIfInBounds_toArray, List.set_cons_zero, List.set_cons_succ])
  refine RG.alone (by rfl) (fun K hK => ?_)
  go_simp
  refine (HBY.out _ HD6.out).mono ?_
  rintro e w8 ⟨v8, rfl, ho8, b8⟩
  go_simp
  refine hK.out _ _ b8 ?_
  clear hK K
  obtain ⟨p8, cp8, rfl, _, _⟩ := ho8.brow.shape
  have HE8 := Lib.hid (fun W (hW : RG.Grew w8 W) => (BRow.below ho8.brow hW).conv)
  have HB8 := Lib.hid (HD6.out.trans (b8.mono HD6.out.size))
  clear ho8 b8
  repeat (refine RG.take (by rfl) (by intro W hW; have g3 := HE8.out W hW; go_simp; with_reducible rfl) ?_; simp only [Act.put, List.setIfInBounds_toArray, List.set_cons_zero, List.set_cons_succ])
  refine RG.alone (by rfl) (fun K hK => ?_)
  go_simp
  refine (awake_any _).mono ?_
  rintro e w9 ⟨rfl, b9⟩
  go_simp
  refine hK.out _ _ b9 ?_
  clear hK K
  have HB9 := Lib.hid (HB8.out.trans (b9.mono HB8.out.size))
  clear b9 HE8 HB8
  repeat (refine RG.take (by rfl) (by intro W hW; go_simp; with_reducible rfl) ?_; simp only [Act.put, List.setIfInBounds_toArray, List.set_cons_zero, List.set_cons_succ])
  refine RG.done ?_
  go_wp2_with fail
  refine (HREAD.out _ (HC6.out _ HB9.out)).mono ?_
  rintro e w10 ⟨rfl, rfl⟩
  go_wp2_with fail
  refine (HRREAD.out _ (HC6.out _ HB9.out)).mono ?_
  rintro e w11 ⟨rfl, b11⟩
  have HB11 := Lib.hid (HB9.out.trans (b11.mono HB9.out.size))
  have HB12 := Lib.hid (HB11.out.alloc HB11.out.size (.cells #[.slice none 0 0] 30))
  clear b11 HB9
  go_wp2_with fail
  refine (HBY.out _ HB12.out).mono ?_
  rintro e w13 ⟨v13, rfl, ho13, b13⟩
  have HB13 := Lib.hid (HB12.out.trans (b13.mono HB12.out.size))
  have HX13 := Lib.hid (cread_any v13 M w13 ho13.brow HLO.out HHI.out)
  clear ho13 b13 HB12 HB11
  go_wp2_with fail
  refine HX13.out.mono ?_
  rintro e w14 ⟨gx, bx, capx, rfl, hf14, _, _, hb14⟩
  have HB14 := Lib.hid (HB13.out.trans (hb14.mono HB13.out.size))
  have HF14 := Lib.hid hf14
  clear hf14 hb14 HX13 HB13
  obtain ⟨wd14, hwd14⟩ : ∃ wd, w14.drew = wd := ⟨_, rfl⟩
  have hd14 : Below w14.heap.size w14 wd14 := by rw [← hwd14]; exact (Below.refl _ _).drew
  have HWD14 := Lib.hid hwd14
  have HD14 := Lib.hid hd14
  clear hwd14 hd14
  go_wp2_with fail
  refine RG.begin_ [(0, true), (1, true), (2, true), (3, true), (4, true), (5, true), (6, true), (7, true), (10, true), (8, false), (9, true), (11, false), (12, true), (13, true), (14, true)] (by kernel_rfl) (by kernel_rfl) rfl (by kernel_rfl) (fun _ _ d _ _ h => by cases d <;> exact h) ?_
  simp only [RG.ordered, List.map_cons, List.map_nil, List.getElem?_toArray, List.getElem?_cons_succ, List.getElem?_cons_zero]
  rw [HWD14.out]
  repeat (refine RG.take (by rfl) (by intro W hW; go_simp; with_reducible rfl) ?_; simp only [Act.put, List.setIfInBounds_toArray, List.set_cons_zero, List.set_cons_succ])
  refine RG.alone (by rfl) (fun K hK => ?_)
  go_simp
  refine (cbytes_any gx bx capx M wd14 (HF14.out.below HD14.out)).mono ?_
  rintro e w15 ⟨v15, rfl, ho15, b15⟩
  go_simp
  refine hK.out _ _ b15 ?_
  clear hK K
  obtain ⟨p15, cp15, rfl, _, _⟩ := ho15.brow.shape
  have HE15 := Lib.hid (fun W (hW : RG.Grew w15 W) => (BRow.below ho15.brow hW).conv)
  have HS15 := Lib.hid (grow HD14.out b15)
  have HB15 := Lib.hid (HB14.out.trans (HS15.out.mono HB14.out.size))
  clear ho15 b15
  repeat (refine RG.take (by rfl) (by intro W hW; have g3 := HE15.out W hW; go_simp; with_reducible rfl) ?_; simp only [Act.put, List.setIfInBounds_toArray, List.set_cons_zero, List.set_cons_succ])
  refine RG.alone (by rfl) (fun K hK => ?_)
  go_simp
  refine (HBY.out _ HB15.out).mono ?_
  rintro e w16 ⟨v16, rfl, ho16, b16⟩
  go_simp
  refine hK.out _ _ b16 ?_
  clear hK K
  obtain ⟨p16, cp16, rfl, _, _⟩ := ho16.brow.shape
  have HE16 := Lib.hid (fun W (hW : RG.Grew w16 W) => (BRow.below ho16.brow hW).conv)
  have HS16 := Lib.hid (grow HS15.out b16)
  clear ho16 b16 HE15 HB15 HS15
  repeat (refine RG.take (by rfl) (by intro W hW; have g3 := HE16.out W hW; go_simp; with_reducible rfl) ?_; simp only [Act.put, List.setIfInBounds_toArray, List.set_cons_zero, List.set_cons_succ])
  refine RG.done ?_
  have HFX := Lib.hid (HF14.out.below HS16.out)
  have HB16 := Lib.hid (HB14.out.trans (HS16.out.mono HB14.out.size))
  clear HF14 HE16 HS16 HB14 HD14
  go_wp2_with fail
  go_loopw [15] (fun jv wr => ∃ j : Nat, j ≤ gs.length ∧ jv = .int .i64 j ∧ Hid (Below w16.heap.size w16 wr)) (fun jv _ => gs.length - (intOf jv).toNat)
  case atStart => exact ⟨0, by omega, rfl, Lib.hid (Below.refl _ _)⟩
  case round =>
    obtain ⟨j, hj, rfl, HBL⟩ := hrel
    have hb16 := HB16.out.trans (HBL.out.mono HB16.out.size)
    by_cases hlt : j < gs.length
    · have t2 : decide ((j : Int) < (gs.length : Int)) = true := by simp; omega
      have hbw := HB6.out.trans (hb16.mono HB6.out.size)
      obtain ⟨bt, off, rfl, hbt, hcell⟩ := TIn.at_ (HU2.out.below hbw) hlt
      have hse := HGE.out j hlt
      obtain ⟨s, hs⟩ : ∃ s, gs[j] = s := ⟨_, rfl⟩
      rw [hs] at hcell hse
      have hlo := HLO.out
      have hhi := HHI.out
      have hmay := fun W (hf : FAt W gx bx capx M) => may_any gx bx capx M s W hf (by omega)
      have hrm := fun W (hr : BRow W (.slice p5 mn cp5) M) => rmay_any _ M s W hr (by omega) hlo hhi
      obtain ⟨R, hR⟩ : ∃ R, mayL M s = R := ⟨_, rfl⟩
      simp only [hR] at hmay hrm
      have HMA := Lib.hid hmay
      have HRMA := Lib.hid hrm
      obtain ⟨wd, hwd⟩ : ∃ wd, wr.drew = wd := ⟨_, rfl⟩
      have hbd : Below w16.heap.size w16 wd := by rw [← hwd]; exact HBL.out.drew
      have hkd : Below wr.heap.size wr wd := by rw [← hwd]; exact (Below.refl _ _).drew
      have HBD := Lib.hid hbd
      have HBD6 := Lib.hid (HB16.out.trans (hbd.mono HB16.out.size))
      have HF1 := Lib.hid (fun W (hW : RG.Grew wd W) => (hW.cell (p := ⟨bt, off + j, none⟩) (Nat.lt_of_lt_of_le hbt (Nat.le_trans hbw.size hkd.size))).trans ((hkd.cell (p := ⟨bt, off + j, none⟩) (Nat.lt_of_lt_of_le hbt hbw.size)).trans hcell))
      have HF2 := Lib.hid (fun W (hW : RG.Grew wd W) => HCC.out W (HBD6.out.trans (hW.mono HBD6.out.size)))
      clear hs hR hmay hrm hse hbd hkd hcell hbw hb16 hlo hhi
      go_wp2_with fail
      refine RG.begin_ [(0, true), (1, true), (2, true), (3, true), (4, true), (6, true), (7, true), (8, true), (9, true), (10, true), (5, false), (11, false), (12, true), (13, true), (14, true), (15, true), (16, true), (17, true), (18, true), (19, true), (20, true), (21, true), (23, true), (24, true), (25, true), (26, true), (27, true), (22, false), (28, false), (29, true), (30, true), (31, true)] (by kernel_rfl) (by kernel_rfl) rfl (by kernel_rfl) (fun _ _ d _ _ h => by cases d <;> exact h) ?_
      simp only [RG.ordered, List.map_cons, List.map_nil, List.getElem?_toArray, List.getElem?_cons_succ, List.getElem?_cons_zero]
      rw [hwd]
      repeat (refine RG.take (by rfl) (by intro W hW; have g1 := HF1.out W hW; have g2 := HF2.out W hW; go_simp; with_reducible rfl) ?_; simp only [Act.put, List.setIfInBounds_toArray, List.set_cons_zero, List.set_cons_succ])
      refine RG.alone (by rfl) (fun K hK => ?_)
      go_simp
      refine (HMA.out _ (HFX.out.below HBD.out)).mono ?_
      rintro e w18 ⟨rfl, b18⟩
      go_simp
      refine hK.out _ _ b18 ?_
      clear hK K
      refine RG.alone (by rfl) (fun K hK => ?_)
      go_simp
      refine (HRMA.out _ (HRR.out _ (HBD6.out.trans (b18.mono HBD6.out.size)))).mono ?_
      rintro e w19 ⟨rfl, b19⟩
      go_simp
      refine hK.out _ _ b19 ?_
      clear hK K
      have HB19 := Lib.hid (HBD.out.trans ((grow b18 b19).mono HBD.out.size))
      have HS19 := Lib.hid (grow b18 b19)
      clear b18 b19
      repeat ((first | (refine RG.take (by rfl) (by intro W hW; go_simp; with_reducible rfl) ?_) | (refine RG.skip (by rfl) ?_) | (refine RG.alone_skip (by rfl) ?_)); simp only [Act.put, List.setIfInBounds_toArray, List.set_cons_zero, List.set_cons_succ])
      refine RG.done ?_
      go_wp2_with fail
      go_roundw
      case rel => exact ⟨j + 1, by omega, by go_num, HB19⟩
      case measure => simp [intOf]; omega
    · obtain rfl : j = gs.length := by omega
      have t2 : decide ((gs.length : Int) < (gs.length : Int)) = false := by simp
      have HBE := Lib.hid (HB2.out.trans ((HB6.out.trans (hb16.mono HB6.out.size)).mono HB2.out.size))
      have HBF := Lib.hid HBE.out.drew
      clear hb16
      go_wp2_with fail
      refine RG.begin_ [(0, true), (1, true), (2, true), (3, true), (6, true), (7, true), (4, false), (5, true), (8, true), (9, true), (10, true), (12, true), (11, false), (13, false), (14, true), (15, true), (16, true), (17, true)] (by kernel_rfl) (by kernel_rfl) rfl (by kernel_rfl) (fun _ _ d _ _ h => by cases d <;> exact h) ?_
      simp only [RG.ordered, List.map_cons, List.map_nil, List.getElem?_toArray, List.getElem?_cons_succ, List.getElem?_cons_zero]
      repeat ((first | (refine RG.take (by rfl) (by intro W hW; go_simp; with_reducible rfl) ?_) | (refine RG.skip (by rfl) ?_) | (refine RG.alone_skip (by rfl) ?_)); simp only [Act.put, List.setIfInBounds_toArray, List.set_cons_zero, List.set_cons_succ])
      refine RG.done ?_
      go_wp2_with fail
      go_ret
      exact ⟨rfl, HBF.out⟩

set_option maxRecDepth 100000 in
set_option maxHeartbeats 8000000 in
theorem of_long (v0 v1 v2 : Value) (ls : List (List UInt8)) (b : List UInt8) (qs : List (List UInt8)) (w : World) (h0 : TRow w v0 ls) (hb : BRow w v1 b) (h1 : TRow w v2 qs) (hsh : 8 ≤ (b.take 2000).length) :
    Calls Try.prog 4 #[v0, v1, v2] w fun e w' => e = .returned (.bool true) ∧ Below w.heap.size w w' := by
  have HFEW := Lib.hid (fun W (hb : Below w.heap.size w W) => few_any v0 ls W (TRow.below h0 hb))
  have HFEW2 := Lib.hid (fun W (hb : Below w.heap.size w W) => few_any v2 qs W (TRow.below h1 hb))
  have hfl := fewL_len ls
  have hfe := fun s (h : s ∈ fewL ls) => fewL_each h
  obtain ⟨fs, hfs⟩ : ∃ fs, fewL ls = fs := ⟨_, rfl⟩
  rw [hfs] at HFEW hfl hfe
  have hgl := fewL_len qs
  have hge := fun s (h : s ∈ fewL qs) => fewL_each h
  obtain ⟨gs, hgs⟩ : ∃ gs, fewL qs = gs := ⟨_, rfl⟩
  rw [hgs] at HFEW2 hgl hge
  have HFE := Lib.hid (fun s (h : s ∈ fs) => hfe s h)
  have HGE := Lib.hid (fun k (hk : k < gs.length) => hge gs[k] (List.getElem_mem hk))
  have hlen := addA_all (newL fs.length) fs
  rw [newL_len] at hlen
  have hrl := roomL_le fs.length
  rw [← hlen] at hrl
  have HOF := Lib.hid (fun v W (ht : TRow W v fs) => cof_any v fs W ht (by omega) (fun s hs => by have := HFE.out s hs; omega))
  have HROF := Lib.hid (fun v W (ht : TRow W v fs) => rof_any v fs W ht (by omega) (fun s hs => by have := HFE.out s hs; omega))
  obtain ⟨M, hM⟩ : ∃ M, (addA (newL fs.length) fs).1 = M := ⟨_, rfl⟩
  rw [hM] at HOF HROF hrl
  have HLO := Lib.hid hrl.1
  have HHI := Lib.hid hrl.2
  -- the bytes
  obtain ⟨bp, bcap, rfl, hbc, hbm⟩ := BIn.shape hb
  unfold maxLen at hbm
  obtain ⟨m, hm⟩ : ∃ m, min b.length 2000 = m := ⟨_, rfl⟩
  have hml : (b.take 2000).length = m := by rw [List.length_take]; omega
  have e1 : (if (2000 : Int) < (b.length : Int) then (2000 : Int) else (b.length : Int)) = (m : Int) := by split <;> omega
  have hbt : BRow w (.slice bp m bcap) (b.take 2000) := by
    have h := BIn.take hb m (by omega)
    have e2 : b.take m = b.take 2000 := by
      rw [← hm]
      by_cases h : b.length ≤ 2000
      · rw [Nat.min_eq_left h, List.take_length, List.take_of_length_le h]
      · rw [Nat.min_eq_right (by omega)]
    rw [e2] at h
    exact h
  have HBT := Lib.hid hbt
  have i1 : m ≤ b.length := by omega
  have i2 : m ≤ bcap := by omega
  have i3 : (m : Int) ≤ (bcap : Int) := by omega
  obtain ⟨nb, hnb⟩ : ∃ nb, b.length = nb := ⟨_, rfl⟩
  rw [hnb] at e1 hbc i1 ⊢
  obtain ⟨c, hc⟩ : ∃ c, b.take 2000 = c := ⟨_, rfl⟩
  rw [hc] at HBT hml hsh
  have hm8 : 8 ≤ m := by omega
  have hm9 : m ≤ 2000 := by omega
  have hc8 : 8 ≤ c.length := by omega
  have HREAD := Lib.hid (fun W (h : BRow W (.slice bp m bcap) c) => cread_any _ c W h hc8 (by omega))
  have HRREAD := Lib.hid (fun W (h : BRow W (.slice bp m bcap) c) => rread_any _ c W h hc8 (by omega))
  have HML := Lib.hid hml
  obtain ⟨tp0, tc0, rfl, hx0, hx1⟩ := TIn.shape h0
  obtain ⟨tp2, tc2, rfl, hy0, hy1⟩ := TIn.shape h1
  obtain ⟨wd, hwd⟩ : ∃ wd, w.drew = wd := ⟨_, rfl⟩
  have HBD := Lib.hid (show Below w.heap.size w wd by rw [← hwd]; exact (Below.refl _ _).drew)
  have HWD := Lib.hid hwd
  clear h0 hb h1 hsh hfs hgs hfe hge hlen hrl hM hm hml hbt hnb hc hc8 hwd
  go_enter Try.func4, Try.ntmps4
  go_wp2_with fail
  refine RG.begin_ [(0, true), (2, true), (4, true), (5, true), (6, true), (7, true), (8, true), (1, false), (3, false), (9, true), (10, true), (11, true)] (by kernel_rfl) (by kernel_rfl) rfl (by kernel_rfl) (fun _ _ d _ _ h => by cases d <;> exact h) ?_
  simp only [RG.ordered, List.map_cons, List.map_nil, List.getElem?_toArray, List.getElem?_cons_succ, List.getElem?_cons_zero]
  rw [HWD.out]
  repeat (refine RG.take (by rfl) (by intro W hW; go_simp; with_reducible rfl) ?_; simp only [Act.put, List.setIfInBounds_toArray, List.set_cons_zero, List.set_cons_succ])
  refine RG.alone (by rfl) (fun K hK => ?_)
  go_simp
  refine (HFEW.out wd HBD.out).mono ?_
  rintro e w1 ⟨v3, rfl, ho1, b1⟩
  go_simp
  refine hK.out _ _ b1 ?_
  clear hK K
  have HB1 := Lib.hid (HBD.out.trans (b1.mono HBD.out.size))
  have HT1 := Lib.hid ho1
  clear ho1 b1 HFEW
  refine RG.alone (by rfl) (fun K hK => ?_)
  go_simp
  refine (HFEW2.out w1 HB1.out).mono ?_
  rintro e w2 ⟨v4, rfl, ho2, b2⟩
  go_simp
  refine hK.out _ _ b2 ?_
  clear hK K
  have HB2 := Lib.hid (HB1.out.trans (b2.mono HB1.out.size))
  have HT2 : Hid (TRow w2 v3 fs) := Lib.hid (HT1.out.keep b2).trow
  have HU2 : Hid (TIn w2.heap.size w2 v4 gs) := Lib.hid ho2.trow
  have HC2 : Hid (BRow w2 (.slice bp m bcap) c) := Lib.hid (HBT.out.below HB2.out)
  clear ho2 b2 HFEW2 HB1 HT1
  repeat (refine RG.take (by rfl) (by intro W hW; go_simp; with_reducible rfl) ?_; simp only [Act.put, List.setIfInBounds_toArray, List.set_cons_zero, List.set_cons_succ])
  refine RG.done ?_
  obtain ⟨p3, tc3, rfl, _, _⟩ := TIn.shape HT2.out
  obtain ⟨p4, tc4, rfl, _, _⟩ := TIn.shape HU2.out
  go_wp2_with fail
  refine (HOF.out _ _ HT2.out).mono ?_
  rintro e w3 ⟨g, b, cap, rfl, hf3, hg3, hbb3, hb3⟩
  have HB3 := Lib.hid hb3
  have HF3 := Lib.hid hf3
  clear hf3 hb3
  go_wp2_with fail
  refine (HROF.out _ _ (HT2.out.below HB3.out)).mono ?_
  rintro e w4 ⟨v5, rfl, hr4, hb4⟩
  obtain ⟨p5, cp5, rfl, _, _⟩ := hr4.shape
  obtain ⟨mn, hmn⟩ : ∃ mn, M.length = mn := ⟨_, rfl⟩
  rw [hmn] at hr4 ⊢
  have HMN := Lib.hid hmn
  have hg6 := heap_alloc_new w4 (.cells #[.slice p5 mn cp5] 30)
  have hb6 : Below w4.heap.size w4 (w4.alloc (.cells #[.slice p5 mn cp5] 30)) := (Below.refl _ _).alloc (Nat.le_refl _) _
  have hb36 := hb4.trans (hb6.mono hb4.size)
  have HF6 := Lib.hid (HF3.out.below hb36)
  have HR6 := Lib.hid (hr4.below hb6)
  have HB6 := Lib.hid (HB3.out.trans (hb36.mono HB3.out.size))
  obtain ⟨W6, hW6⟩ : ∃ W6, w4.alloc (.cells #[.slice p5 mn cp5] 30) = W6 := ⟨_, rfl⟩
  rw [hW6] at hg6 HF6 HR6 HB6
  obtain ⟨c8, hc8⟩ : ∃ c8, w4.heap.size = c8 := ⟨_, rfl⟩
  have HWC := Lib.hid hc8
  rw [hc8] at hg6
  have HG6 := Lib.hid hg6
  have HW6 := Lib.hid hW6
  clear hr4 hb4 hg6 hb6 hb36 hW6 hc8 HB3 HF3 hmn
  go_wp2_with fail
  rw [HW6.out, HWC.out]
  obtain ⟨wd6, hwd6⟩ : ∃ wd, W6.drew = wd := ⟨_, rfl⟩
  have hd6 : Below W6.heap.size W6 wd6 := by rw [← hwd6]; exact (Below.refl _ _).drew
  have HWD6 := Lib.hid hwd6
  have HGG := Lib.hid (fun W (h : Below W6.heap.size W6 W) => (h.block c8 (Array.getElem?_eq_some_iff.1 HG6.out).1).trans HG6.out)
  have HRR := Lib.hid (fun W (h : Below W6.heap.size W6 W) => BRow.below HR6.out h)
  have HFF := Lib.hid (fun W (h : Below W6.heap.size W6 W) => FAt.below HF6.out h)
  have HCC := Lib.hid (fun W (h : Below W6.heap.size W6 W) => show W.cell? ⟨c8, 0, none⟩ = some (.slice p5 mn cp5) by rw [cell_of_row W c8 0 _ _ _ (HGG.out W h)]; rfl)
  have HBY := Lib.hid (fun W (h : Below W6.heap.size W6 W) => cbytes_any g b cap M W (HFF.out W h))
  have HD6 := Lib.hid hd6
  have HC6 := Lib.hid (fun W (h : Below W6.heap.size W6 W) => BRow.below HC2.out (HB6.out.trans (h.mono HB6.out.size)))
  clear hwd6 hd6 HG6 HR6 HF6
  go_wp2_with fail
  refine RG.begin_ [(0, true), (1, true), (2, true), (3, true), (6, true), (7, true), (8, true), (4, false), (5, true), (9, true), (10, true), (11, true), (12, false), (13, true), (14, true)] (by kernel_rfl) (by kernel_rfl) rfl (by kernel_rfl) (fun _ _ d _ _ h => by cases d <;> exact h) ?_
  simp only [RG.ordered, List.map_cons, List.map_nil, List.getElem?_toArray, List.getElem?_cons_succ, List.getElem?_cons_zero]
  rw [HWD6.out]
  repeat (refine RG.take (by rfl) (by intro W hW; have g1 := HCC.out W (RG.Grew.trans HD6.out hW); have g2 := BIn.conv (HRR.out W (RG.Grew.trans HD6.out hW)); go_simp; with_reducible rfl) ?_; simp only [Act.put, List.setIfInBounds_toArray, List.set_cons_zero, List.set_cons_succ])
  refine RG.alone (by rfl) (fun K hK => ?_)
  go_simp
  refine (HBY.out _ HD6.out).mono ?_
  rintro e w8 ⟨v8, rfl, ho8, b8⟩
  go_simp
  refine hK.out _ _ b8 ?_
  clear hK K
  obtain ⟨p8, cp8, rfl, _, _⟩ := ho8.brow.shape
  have HE8 := Lib.hid (fun W (hW : RG.Grew w8 W) => (BRow.below ho8.brow hW).conv)
  have HB8 := Lib.hid (HD6.out.trans (b8.mono HD6.out.size))
  clear ho8 b8
  repeat (refine RG.take (by rfl) (by intro W hW; have g3 := HE8.out W hW; go_simp; with_reducible rfl) ?_; simp only [Act.put, List.setIfInBounds_toArray, List.set_cons_zero, List.set_cons_succ])
  refine RG.alone (by rfl) (fun K hK => ?_)
  go_simp
  refine (awake_any _).mono ?_
  rintro e w9 ⟨rfl, b9⟩
  go_simp
  refine hK.out _ _ b9 ?_
  clear hK K
  have HB9 := Lib.hid (HB8.out.trans (b9.mono HB8.out.size))
  clear b9 HE8 HB8
  repeat (refine RG.take (by rfl) (by intro W hW; go_simp; with_reducible rfl) ?_; simp only [Act.put, List.setIfInBounds_toArray, List.set_cons_zero, List.set_cons_succ])
  refine RG.done ?_
  go_wp2_with fail
  refine (HREAD.out _ (HC6.out _ HB9.out)).mono ?_
  rintro e w10 ⟨gq, bq, capq, rfl, hf10, _, _, hb10⟩
  have HB10 := Lib.hid (HB9.out.trans (hb10.mono HB9.out.size))
  have HF10 := Lib.hid hf10
  clear hf10 hb10 HB9
  go_wp2_with fail
  refine (HRREAD.out _ (HC6.out _ HB10.out)).mono ?_
  rintro e w11 ⟨vq, rfl, hoq, b11⟩
  have hrq := hoq.brow
  obtain ⟨pq, cq, rfl, _, _⟩ := hrq.shape
  rw [HML.out] at hrq ⊢
  have HB11 := Lib.hid (HB10.out.trans (b11.mono HB10.out.size))
  have hg12 := heap_alloc_new w11 (.cells #[.slice pq m cq] 30)
  have hb12 : Below w11.heap.size w11 (w11.alloc (.cells #[.slice pq m cq] 30)) := (Below.refl _ _).alloc (Nat.le_refl _) _
  have HB12 := Lib.hid (HB11.out.alloc HB11.out.size (.cells #[.slice pq m cq] 30))
  have HGQ := Lib.hid (fun W (h : Below (w11.alloc (.cells #[.slice pq m cq] 30)).heap.size (w11.alloc (.cells #[.slice pq m cq] 30)) W) => And.intro (FAt.below (HF10.out.below (b11.trans (hb12.mono b11.size))) h) (And.intro (BRow.below (hrq.below hb12) h) (show W.cell? ⟨w11.heap.size, 0, none⟩ = some (.slice pq m cq) by rw [cell_of_row W w11.heap.size 0 _ _ _ ((h.block w11.heap.size (Array.getElem?_eq_some_iff.1 hg12).1).trans hg12)]; rfl)))
  clear b11 hoq hrq hg12 hb12 HB10 HF10
  go_wp2_with fail
  refine (HBY.out _ HB12.out).mono ?_
  rintro e w13 ⟨v13, rfl, ho13, b13⟩
  have HB13 := Lib.hid (HB12.out.trans (b13.mono HB12.out.size))
  have HQ13 := Lib.hid b13
  have HX13 := Lib.hid (cread_any v13 M w13 ho13.brow HLO.out HHI.out)
  clear ho13 b13 HB12 HB11
  go_wp2_with fail
  refine HX13.out.mono ?_
  rintro e w14 ⟨gx, bx, capx, rfl, hf14, _, _, hb14⟩
  have HB14 := Lib.hid (HB13.out.trans (hb14.mono HB13.out.size))
  have HQ14 := Lib.hid (grow HQ13.out hb14)
  have HF14 := Lib.hid hf14
  clear hf14 hb14 HX13 HB13
  obtain ⟨wd14, hwd14⟩ : ∃ wd, w14.drew = wd := ⟨_, rfl⟩
  have hd14 : Below w14.heap.size w14 wd14 := by rw [← hwd14]; exact (Below.refl _ _).drew
  have HWD14 := Lib.hid hwd14
  have HD14 := Lib.hid hd14
  clear hwd14 hd14
  go_wp2_with fail
  refine RG.begin_ [(0, true), (1, true), (2, true), (3, true), (4, true), (5, true), (6, true), (7, true), (10, true), (8, false), (9, true), (11, false), (12, true), (13, true), (14, true)] (by kernel_rfl) (by kernel_rfl) rfl (by kernel_rfl) (fun _ _ d _ _ h => by cases d <;> exact h) ?_
  simp only [RG.ordered, List.map_cons, List.map_nil, List.getElem?_toArray, List.getElem?_cons_succ, List.getElem?_cons_zero]
  rw [HWD14.out]
  repeat (refine RG.take (by rfl) (by intro W hW; go_simp; with_reducible rfl) ?_; simp only [Act.put, List.setIfInBounds_toArray, List.set_cons_zero, List.set_cons_succ])
  refine RG.alone (by rfl) (fun K hK => ?_)
  go_simp
  refine (cbytes_any gx bx capx M wd14 (HF14.out.below HD14.out)).mono ?_
  rintro e w15 ⟨v15, rfl, ho15, b15⟩
  go_simp
  refine hK.out _ _ b15 ?_
  clear hK K
  obtain ⟨p15, cp15, rfl, _, _⟩ := ho15.brow.shape
  have HE15 := Lib.hid (fun W (hW : RG.Grew w15 W) => (BRow.below ho15.brow hW).conv)
  have HS15 := Lib.hid (grow HD14.out b15)
  have HB15 := Lib.hid (HB14.out.trans (HS15.out.mono HB14.out.size))
  clear ho15 b15
  repeat (refine RG.take (by rfl) (by intro W hW; have g3 := HE15.out W hW; go_simp; with_reducible rfl) ?_; simp only [Act.put, List.setIfInBounds_toArray, List.set_cons_zero, List.set_cons_succ])
  refine RG.alone (by rfl) (fun K hK => ?_)
  go_simp
  refine (HBY.out _ HB15.out).mono ?_
  rintro e w16 ⟨v16, rfl, ho16, b16⟩
  go_simp
  refine hK.out _ _ b16 ?_
  clear hK K
  obtain ⟨p16, cp16, rfl, _, _⟩ := ho16.brow.shape
  have HE16 := Lib.hid (fun W (hW : RG.Grew w16 W) => (BRow.below ho16.brow hW).conv)
  have HS16 := Lib.hid (grow HS15.out b16)
  clear ho16 b16 HE15 HB15 HS15
  repeat (refine RG.take (by rfl) (by intro W hW; have g3 := HE16.out W hW; go_simp; with_reducible rfl) ?_; simp only [Act.put, List.setIfInBounds_toArray, List.set_cons_zero, List.set_cons_succ])
  refine RG.done ?_
  have HFX := Lib.hid (HF14.out.below HS16.out)
  have HGG16 := Lib.hid (fun W (h : Below w16.heap.size w16 W) => HGQ.out W (HQ14.out.trans ((HS16.out.trans (h.mono HS16.out.size)).mono HQ14.out.size)))
  have HB16 := Lib.hid (HB14.out.trans (HS16.out.mono HB14.out.size))
  clear HF14 HE16 HS16 HB14 HD14
  go_wp2_with fail
  go_loopw [15] (fun jv wr => ∃ j : Nat, j ≤ gs.length ∧ jv = .int .i64 j ∧ Hid (Below w16.heap.size w16 wr)) (fun jv _ => gs.length - (intOf jv).toNat)
  case atStart => exact ⟨0, by omega, rfl, Lib.hid (Below.refl _ _)⟩
  case round =>
    obtain ⟨j, hj, rfl, HBL⟩ := hrel
    have hb16 := HB16.out.trans (HBL.out.mono HB16.out.size)
    by_cases hlt : j < gs.length
    · have t2 : decide ((j : Int) < (gs.length : Int)) = true := by simp; omega
      have hbw := HB6.out.trans (hb16.mono HB6.out.size)
      obtain ⟨bt, off, rfl, hbt, hcell⟩ := TIn.at_ (HU2.out.below hbw) hlt
      have hse := HGE.out j hlt
      obtain ⟨s, hs⟩ : ∃ s, gs[j] = s := ⟨_, rfl⟩
      rw [hs] at hcell hse
      have hlo := HLO.out
      have hhi := HHI.out
      have hmay := fun W (hf : FAt W gx bx capx M) => may_any gx bx capx M s W hf (by omega)
      have hrm := fun W (hr : BRow W (.slice p5 mn cp5) M) => rmay_any _ M s W hr (by omega) hlo hhi
      have hmaq := fun W (hf : FAt W gq bq capq c) => may_any gq bq capq c s W hf (by omega)
      have hrmq := fun W (hr : BRow W (.slice pq m cq) c) => rmay_any _ c s W hr (by omega) (by rw [HML.out]; omega) (by rw [HML.out]; omega)
      obtain ⟨RQ, hRQ⟩ : ∃ R, mayL c s = R := ⟨_, rfl⟩
      simp only [hRQ] at hmaq hrmq
      have HMAQ := Lib.hid hmaq
      have HRMQ := Lib.hid hrmq
      obtain ⟨R, hR⟩ : ∃ R, mayL M s = R := ⟨_, rfl⟩
      simp only [hR] at hmay hrm
      have HMA := Lib.hid hmay
      have HRMA := Lib.hid hrm
      obtain ⟨wd, hwd⟩ : ∃ wd, wr.drew = wd := ⟨_, rfl⟩
      have hbd : Below w16.heap.size w16 wd := by rw [← hwd]; exact HBL.out.drew
      have hkd : Below wr.heap.size wr wd := by rw [← hwd]; exact (Below.refl _ _).drew
      have HBD := Lib.hid hbd
      have HBD6 := Lib.hid (HB16.out.trans (hbd.mono HB16.out.size))
      have HF1 := Lib.hid (fun W (hW : RG.Grew wd W) => (hW.cell (p := ⟨bt, off + j, none⟩) (Nat.lt_of_lt_of_le hbt (Nat.le_trans hbw.size hkd.size))).trans ((hkd.cell (p := ⟨bt, off + j, none⟩) (Nat.lt_of_lt_of_le hbt hbw.size)).trans hcell))
      have HF2 := Lib.hid (fun W (hW : RG.Grew wd W) => HCC.out W (HBD6.out.trans (hW.mono HBD6.out.size)))
      have HF3 := Lib.hid (fun W (hW : RG.Grew wd W) => HGG16.out W (HBD.out.trans (hW.mono HBD.out.size)))
      clear hs hR hRQ hmay hrm hmaq hrmq hse hbd hkd hcell hbw hb16 hlo hhi
      go_wp2_with fail
      refine RG.begin_ [(0, true), (1, true), (2, true), (3, true), (4, true), (6, true), (7, true), (8, true), (9, true), (10, true), (5, false), (11, false), (12, true), (13, true), (14, true), (15, true), (16, true), (17, true), (18, true), (19, true), (20, true), (21, true), (23, true), (24, true), (25, true), (26, true), (27, true), (22, false), (28, false), (29, true), (30, true), (31, true)] (by kernel_rfl) (by kernel_rfl) rfl (by kernel_rfl) (fun _ _ d _ _ h => by cases d <;> exact h) ?_
      simp only [RG.ordered, List.map_cons, List.map_nil, List.getElem?_toArray, List.getElem?_cons_succ, List.getElem?_cons_zero]
      rw [hwd]
      repeat (refine RG.take (by rfl) (by intro W hW; have g1 := HF1.out W hW; have g2 := HF2.out W hW; go_simp; with_reducible rfl) ?_; simp only [Act.put, List.setIfInBounds_toArray, List.set_cons_zero, List.set_cons_succ])
      refine RG.alone (by rfl) (fun K hK => ?_)
      go_simp
      refine (HMA.out _ (HFX.out.below HBD.out)).mono ?_
      rintro e w18 ⟨rfl, b18⟩
      go_simp
      refine hK.out _ _ b18 ?_
      clear hK K
      refine RG.alone (by rfl) (fun K hK => ?_)
      go_simp
      refine (HRMA.out _ (HRR.out _ (HBD6.out.trans (b18.mono HBD6.out.size)))).mono ?_
      rintro e w19 ⟨rfl, b19⟩
      go_simp
      refine hK.out _ _ b19 ?_
      clear hK K
      have HS19 := Lib.hid (grow b18 b19)
      clear b18 b19
      repeat (refine RG.take (by rfl) (by intro W hW; have g1 := HF1.out W (RG.Grew.trans HS19.out hW); have g3 := (HF3.out W (RG.Grew.trans HS19.out hW)).2.2; go_simp; with_reducible rfl) ?_; simp only [Act.put, List.setIfInBounds_toArray, List.set_cons_zero, List.set_cons_succ])
      refine RG.alone (by rfl) (fun K hK => ?_)
      go_simp
      refine (HMAQ.out _ (HF3.out _ HS19.out).1).mono ?_
      rintro e w20 ⟨rfl, b20⟩
      go_simp
      refine hK.out _ _ b20 ?_
      clear hK K
      have HS20 := Lib.hid (RG.Grew.trans HS19.out b20)
      clear b20
      refine RG.alone (by rfl) (fun K hK => ?_)
      go_simp
      refine (HRMQ.out _ (HF3.out _ HS20.out).2.1).mono ?_
      rintro e w21 ⟨rfl, b21⟩
      go_simp
      refine hK.out _ _ b21 ?_
      clear hK K
      have HB19 := Lib.hid (HBD.out.trans ((grow HS20.out b21).mono HBD.out.size))
      clear b21
      repeat (refine RG.take (by rfl) (by intro W hW; go_simp; with_reducible rfl) ?_; simp only [Act.put, List.setIfInBounds_toArray, List.set_cons_zero, List.set_cons_succ])
      refine RG.done ?_
      go_wp2_with fail
      go_roundw
      case rel => exact ⟨j + 1, by omega, by go_num, HB19⟩
      case measure => simp [intOf]; omega
    · obtain rfl : j = gs.length := by omega
      have t2 : decide ((gs.length : Int) < (gs.length : Int)) = false := by simp
      have HBE := Lib.hid (HB2.out.trans ((HB6.out.trans (hb16.mono HB6.out.size)).mono HB2.out.size))
      obtain ⟨wz, hwz⟩ : ∃ wz, wr.drew = wz := ⟨_, rfl⟩
      have hbz : Below w16.heap.size w16 wz := by rw [← hwz]; exact HBL.out.drew
      have HBF : Hid (Below w.heap.size w wz) := Lib.hid (by rw [← hwz]; exact HBE.out.drew)
      have HZ := Lib.hid (fun W (hW : RG.Grew wz W) => HGG16.out W (hbz.trans (hW.mono hbz.size)))
      have HBC := Lib.hid (fun W (hW : RG.Grew wz W) => (HC6.out W (HB16.out.trans ((hbz.trans (hW.mono hbz.size)).mono HB16.out.size))).conv)
      have q9 : ((countL c : Int) == (countL c : Int)) = true := by simp
      have HCQ := Lib.hid (fun W (h : BRow W (.slice pq m cq) c) => rcount_any _ c W h (by rw [HML.out]; omega))
      clear hb16 hbz
      go_wp2_with fail
      refine RG.begin_ [(0, true), (1, true), (2, true), (3, true), (6, true), (7, true), (4, false), (5, true), (8, true), (9, true), (10, true), (12, true), (11, false), (13, false), (14, true), (15, true), (16, true), (17, true)] (by kernel_rfl) (by kernel_rfl) rfl (by kernel_rfl) (fun _ _ d _ _ h => by cases d <;> exact h) ?_
      simp only [RG.ordered, List.map_cons, List.map_nil, List.getElem?_toArray, List.getElem?_cons_succ, List.getElem?_cons_zero]
      rw [hwz]
      repeat (refine RG.take (by rfl) (by intro W hW; have g3 := HBC.out W hW; go_simp; with_reducible rfl) ?_; simp only [Act.put, List.setIfInBounds_toArray, List.set_cons_zero, List.set_cons_succ])
      refine RG.alone (by rfl) (fun K hK => ?_)
      go_simp
      refine (cbytes_any gq bq capq c wz (HZ.out wz (RG.Grew.refl _)).1).mono ?_
      rintro e w22 ⟨v22, rfl, ho22, b22⟩
      go_simp
      refine hK.out _ _ b22 ?_
      clear hK K
      obtain ⟨p22, cp22, rfl, _, _⟩ := ho22.brow.shape
      have HE22 := Lib.hid (fun W (hW : RG.Grew w22 W) => (BRow.below ho22.brow hW).conv)
      have HZ22 := Lib.hid (fun W (hW : RG.Grew w22 W) => HZ.out W (RG.Grew.trans b22 hW))
      have HB22 := Lib.hid (HBF.out.trans (b22.mono HBF.out.size))
      clear ho22 b22
      repeat (refine RG.take (by rfl) (by intro W hW; have g3 := HE22.out W hW; have g4 := (HZ22.out W hW).2.2; go_simp; with_reducible rfl) ?_; simp only [Act.put, List.setIfInBounds_toArray, List.set_cons_zero, List.set_cons_succ])
      refine RG.alone (by rfl) (fun K hK => ?_)
      go_simp
      refine (count_any gq bq capq c w22 (HZ22.out w22 (RG.Grew.refl _)).1).mono ?_
      rintro e w23 ⟨rfl, rfl⟩
      go_simp
      refine hK.out _ _ (RG.Grew.refl _) ?_
      clear hK K
      refine RG.alone (by rfl) (fun K hK => ?_)
      go_simp
      refine (HCQ.out w22 (HZ22.out w22 (RG.Grew.refl _)).2.1).mono ?_
      rintro e w24 ⟨rfl, b24⟩
      go_simp
      refine hK.out _ _ b24 ?_
      clear hK K
      have HB24 := Lib.hid (HB22.out.trans (b24.mono HB22.out.size))
      clear b24
      repeat (refine RG.take (by rfl) (by intro W hW; go_simp; with_reducible rfl) ?_; simp only [Act.put, List.setIfInBounds_toArray, List.set_cons_zero, List.set_cons_succ])
      refine RG.done ?_
      go_wp2_with fail
      go_ret
      exact ⟨rfl, HB24.out⟩
/-- The law, at any bytes. -/
theorem of_walk (v0 v1 v2 : Value) (ls : List (List UInt8)) (b : List UInt8) (qs : List (List UInt8)) (w : World) (h0 : TRow w v0 ls) (hb : BRow w v1 b) (h1 : TRow w v2 qs) :
    Calls Try.prog 4 #[v0, v1, v2] w fun e w' => e = .returned (.bool true) ∧ Below w.heap.size w w' := by
  by_cases h : (b.take 2000).length < 8
  · exact of_short v0 v1 v2 ls b qs w h0 hb h1 h
  · exact of_long v0 v1 v2 ls b qs w h0 hb h1 (by omega)
end Go.Proofs.Ytjogjmkfkmbjdaa.BL
