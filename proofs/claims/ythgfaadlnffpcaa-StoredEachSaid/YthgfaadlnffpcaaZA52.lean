/-
  The law StoredEach: each doc of a row is found at its place, and by its number. No condition but the code's contracts; times that an int holds.
-/
import Derived.Test.YthgfaadlnffpcaaZA51
import Derived.Test.YthgfaadlnffpcaaZA21
set_option linter.unusedVariables false
namespace Go.Proofs.Ythgfaadlnffpcaa.ST
open Go Go.RowKit Go.Proofs.Ythgfaadlnffpcaa.MM Go.Proofs.Ythgfaadlnffpcaa.EM Go.Proofs.Ythgfaadlnffpcaa.SM
open Go.Proofs.Ythgfaadlnffpcaa.EV (docC evC fldC doc_at doc_on docE BoolLeft IntLeft samedocs_any)

set_option maxRecDepth 100000 in
set_option maxHeartbeats 4000000 in
theorem each_call (O : Owes) (u : Value) (l : List Doc) (w : World) (hu : RAny docC w u l) (hf : FitS l) : Calls Try.prog 7 #[u] w (Held w) := by
  have hmx : Try.prog.follows .mixedOrders = true := by kernel_rfl
  have HF1 := Lib.hid (few_any w.heap.size u l w hu.bel (Nat.le_refl _))
  have HO := Lib.hid O
  have HAW := Lib.hid (fun W => awake_any HO.out W)
  have HFF := Lib.hid (few_fit hf)
  obtain ⟨pu, cu, rfl, _⟩ := hu.shape
  clear hu hf
  go_enter Try.func7, Try.ntmps7
  go_wp2_with fail
  refine HF1.out.mono ?_
  rintro e w1 ⟨u1, b1, rfl, ho1, hb1⟩
  have HU1 := Lib.hid ho1.any
  have HFT := Lib.hid (HFF.out b1)
  generalize (if b1 = true then l.take 40 else []) = L1 at HU1 HFT
  have HB1 := Lib.hid hb1
  have HE1 := Lib.hid (HO.out.enc _ L1 w1 HU1.out HFT.out)
  have hS : isS L1 = true ∨ isS L1 = false := by cases isS L1 <;> simp
  clear ho1 hb1 HF1 HFF
  go_wp2_with fail
  refine HE1.out.mono ?_
  rintro e w2 ⟨x, rfl, hx, hb2⟩
  have HU2 := Lib.hid (HU1.out.below hb2)
  have HB2 := Lib.hid (below2 HB1.out hb2)
  clear hb2 HE1 HU1 HB1
  rcases hS with hS | hS
  · rw [if_pos hS] at hx
    rw [if_pos hS]
    cases b1 with
    | false =>
      clear hx hS HU2
      go_wp2_with fail
      refine (HAW.out w2).mono ?_
      rintro e w8 ⟨rfl, hb8⟩
      have HB8 := Lib.hid (below2 HB2.out hb8)
      clear hb8 HAW HB2
      go_wp2_with fail
      go_ret
      exact ⟨rfl, HB8.out⟩
    | true =>
      have hput := decS_put hS HFT.out
      have hmost := encS_most hS
      have HIS := Lib.hid hS
      obtain ⟨X, hX⟩ : ∃ X, encS L1 = X := ⟨_, rfl⟩
      rw [hX] at hx hput hmost
      have HX := Lib.hid hx
      have hA := fun i W h => HO.out.at_ x X i W h hmost
      have hF := fun i W h => HO.out.find x X i W h hmost
      rw [hput] at hA hF
      have HA := Lib.hid hA
      have HF := Lib.hid hF
      have hlen := (isS_iff.1 hS).1
      obtain ⟨px, cx, hpx, _⟩ := hx.shape
      obtain ⟨p1, c1, hp1, hlc, hcm, _⟩ := HU2.out.shape
      unfold maxLen at hcm
      subst hp1
      obtain ⟨n, hn⟩ : ∃ n, L1.length = n := ⟨_, rfl⟩
      have HN := Lib.hid hn
      rw [hn] at HU2 hlc hlen ⊢
      have HW0 := Lib.hid (Below.refl w2.heap.size w2)
      clear hx hput hmost hX hA hF hS hn hpx
      go_wp2_with fail
      go_loopw [6] (fun iv wr => ∃ i : Nat, i ≤ n ∧ iv = .int .i64 i ∧ Hid (Below w2.heap.size w2 wr)) (fun iv _ => n - (intOf iv).toNat)
      case atStart => exact ⟨0, by omega, rfl, HW0⟩
      case round =>
        obtain ⟨i, hi, rfl, HB⟩ := hrel
        clear HW0
        by_cases hlt : i < n
        · have q1 : decide ((i : Int) < (n : Int)) = true := by rw [decide_eq_true_eq]; omega
          have q2 : decide (i < n) = true := decide_eq_true hlt
          have q3 : (i : Int) < (n : Int) := by omega
          have hil : i < L1.length := by rw [HN.out]; exact hlt
          have hat : atB (some L1) (i : Int) = (L1[i], 0) := by
            show atS L1 (i : Int) = _
            unfold atS
            rw [if_pos ⟨by omega, by omega⟩]
            simp [List.getD, hil]
          have hfd : findB (some L1) L1[i].1 = some L1[i] := findS_at HIS.out hil
          have hfit := (isS_at HIS.out hil).2.1
          have hpos := (isS_at HIS.out hil).1
          have hlp := (lastS_pos HIS.out (k := i) (by omega)).1
          obtain ⟨⟨sq, ⟨tm, fs⟩⟩, hd⟩ : ∃ d, L1[i] = d := ⟨_, rfl⟩
          have HD := Lib.hid hd
          rw [hd] at hat hfd hfit hpos
          dsimp only at hfd hfit hpos
          have HA1 := Lib.hid (by have := HA.out (i : Int) wr (BRow.below HX.out HB.out) (by omega) (by omega); rw [hat] at this; exact this)
          have HF1 := Lib.hid (fun W (h : BRow W x X) => by have := HF.out sq W h (by omega) (by omega); rw [hfd] at this; exact this)
          have HX1 := Lib.hid (BRow.below HX.out HB.out)
          have HLT := Lib.hid hlt
          have HIL := Lib.hid hil
          clear hat hfd hfit hpos hlp hd hlt
          go_wp2_with fail
          refine HA1.out.mono ?_
          rintro e w3 ⟨ux, rfl, hux, hb3⟩
          dsimp only at hux ⊢
          obtain ⟨pa, ca, rfl, _⟩ := hux.shape
          obtain ⟨g3, hg3⟩ : ∃ g, w3.heap.size = g := ⟨_, rfl⟩
          obtain ⟨w3', hw3⟩ : ∃ W, w3.alloc (.cells #[.int .i64 sq, .int .i64 tm, .slice pa fs.length ca] 45) = W := ⟨_, rfl⟩
          have ha3 : Below w3.heap.size w3 w3' := by rw [← hw3]; exact (Below.refl _ _).alloc (Nat.le_refl _) _
          have X3 : Hid (Three w3' g3 45 (.int .i64 sq) (.int .i64 tm) (.slice pa fs.length ca)) := Lib.hid (by rw [← hw3, ← hg3]; exact three_new w3 45 _ _ _)
          have h23 := grow hb3 ha3
          have HX3 := Lib.hid (RAny.below hux ha3)
          have HV3 := Lib.hid (BRow.below HX1.out h23)
          have HB3 := Lib.hid (HB.out.trans (h23.mono HB.out.size))
          obtain ⟨bd, od, vd, hpd, hbd, _, d0, d1, d2, hfd⟩ := doc_at (RAny.below HU2.out HB3.out) hil
          rw [HD.out] at d0 d1 hfd
          dsimp only at d0 d1 hfd
          subst hpd
          rw [← hw3] at d0
          have HW3 := Lib.hid hw3
          have HG3 := Lib.hid hg3
          clear hux hb3 ha3 h23 HA1 HX1 HB hw3 hg3 d1 d2 hfd
          go_wp2_with fail
          rw [HW3.out, HG3.out]
          refine (HF1.out w3' HV3.out).mono ?_
          rintro e w4 ⟨uy, rfl, huy, hb4⟩
          dsimp only [Option.getD_some, Option.isSome_some] at huy ⊢
          rw [show errD (some L1) = 0 from rfl]
          obtain ⟨py, cy, rfl, _⟩ := huy.shape
          obtain ⟨g4, hg4⟩ : ∃ g, w4.heap.size = g := ⟨_, rfl⟩
          obtain ⟨w4', hw4⟩ : ∃ W, w4.alloc (.cells #[.int .i64 sq, .int .i64 tm, .slice py fs.length cy] 45) = W := ⟨_, rfl⟩
          have ha4 : Below w4.heap.size w4 w4' := by rw [← hw4]; exact (Below.refl _ _).alloc (Nat.le_refl _) _
          have Y4 : Hid (Three w4' g4 45 (.int .i64 sq) (.int .i64 tm) (.slice py fs.length cy)) := Lib.hid (by rw [← hw4, ← hg4]; exact three_new w4 45 _ _ _)
          have h34 := grow hb4 ha4
          have X4 := Lib.hid (X3.out.below h34 X3.out.lt)
          have HY4 := Lib.hid (RAny.below huy ha4)
          have HX4 := Lib.hid (RAny.below HX3.out h34)
          have HB4 := Lib.hid (HB3.out.trans (h34.mono HB3.out.size))
          have HW4 := Lib.hid hw4
          have HG4 := Lib.hid hg4
          clear huy hb4 ha4 h34 HF1 HV3 HB3 HX3 X3 HW3 HG3 hw4 hg4 d0
          go_wp2_with fail
          refine RG.begin_ [(0, true), (1, true), (2, true), (3, true), (4, true), (5, true), (6, true), (7, true), (8, true), (9, true), (10, true), (11, true), (12, true), (13, true), (14, true), (15, true), (16, false), (17, true), (18, true), (19, true), (20, true), (21, true), (22, true), (23, true), (24, true), (25, false), (26, true), (27, true)] hmx (by kernel_rfl) rfl (by kernel_rfl) (fun _ _ d _ _ h => by cases d <;> exact h) ?_
          simp only [RG.ordered, List.map_cons, List.map_nil, List.getElem?_toArray, List.getElem?_cons_succ, List.getElem?_cons_zero]
          rw [HW4.out, HG4.out]
          obtain ⟨wd, hwd⟩ : ∃ W, w4'.drew = W := ⟨_, rfl⟩
          have hbd' : Below w4'.heap.size w4' wd := by rw [← hwd]; exact (Below.refl _ _).drew
          have HBD := Lib.hid (HB4.out.trans (hbd'.mono HB4.out.size))
          have hrow := RAny.below HU2.out HBD.out
          obtain ⟨bd', od', vd', hpe, hbl, _, d0, d1, d2, hfd⟩ := doc_at hrow hil
          simp only [Option.some.injEq, Addr.mk.injEq, and_true] at hpe
          obtain ⟨rfl, rfl⟩ := hpe
          rw [HD.out] at d0 d1 hfd
          dsimp only at d0 d1 hfd
          obtain ⟨pl, cl, rfl, _⟩ := hfd.shape
          have xd := X4.out.below hbd' X4.out.lt
          have yd := Y4.out.below hbd' Y4.out.lt
          have G := Lib.hid (fun W (hW : Below wd.heap.size wd W) => And.intro (xd.below hW xd.lt).cells (And.intro (yd.below hW yd.lt).cells (And.intro ((hW.cell (p := ⟨bd, od + i * 3, none⟩) hbl).trans d0) (And.intro ((hW.cell (p := ⟨bd, od + i * 3 + 1, none⟩) hbl).trans d1) ((hW.cell (p := ⟨bd, od + i * 3 + 2, none⟩) hbl).trans d2)))))
          have HS1 := Lib.hid (lsame_refl sq tm (.slice pa fs.length ca) (.slice pl fs.length cl) fs wd (RAny.below HX4.out hbd') hfd)
          have HS2 := Lib.hid (fun W (hW : Below wd.heap.size wd W) => lsame_refl sq tm (.slice py fs.length cy) (.slice pl fs.length cl) fs W (RAny.below (RAny.below HY4.out hbd') hW) (RAny.below hfd hW))
          rw [hwd]
          clear hwd hbd' hrow d0 d1 d2 hfd xd yd HX4 HY4 X4 Y4 HB4 HW4 HG4
          repeat ((first | (refine RG.take (by rfl) (by intro W hW; obtain ⟨⟨f1, f2, f3⟩, ⟨f4, f5, f6⟩, f7, f8, f9⟩ := G.out W hW; go_simp; with_reducible rfl) ?_) | (refine RG.skip (by rfl) ?_)); simp only [Act.put, List.setIfInBounds_toArray, List.set_cons_zero, List.set_cons_succ])
          refine RG.alone (by rfl) (fun K hK => ?_)
          go_simp
          refine HS1.out.mono ?_
          rintro e w5 ⟨rfl, b5⟩
          go_simp
          refine hK.out _ _ b5 ?_
          clear hK K
          have G5 := Lib.hid (fun W (hW : Below w5.heap.size w5 W) => G.out W (b5.trans (hW.mono b5.size)))
          repeat ((first | (refine RG.take (by rfl) (by intro W hW; obtain ⟨⟨f1, f2, f3⟩, ⟨f4, f5, f6⟩, f7, f8, f9⟩ := G5.out W hW; go_simp; with_reducible rfl) ?_) | (refine RG.skip (by rfl) ?_)); simp only [Act.put, List.setIfInBounds_toArray, List.set_cons_zero, List.set_cons_succ])
          refine RG.alone (by rfl) (fun K hK => ?_)
          go_simp
          refine (HS2.out w5 b5).mono ?_
          rintro e w6 ⟨rfl, b6⟩
          go_simp
          refine hK.out _ _ b6 ?_
          clear hK K
          have HB9 := Lib.hid (HBD.out.trans ((grow b5 b6).mono HBD.out.size))
          clear b5 b6 G G5 HS1 HS2 HBD
          repeat ((first | (refine RG.take (by rfl) (by intro W hW; go_simp; with_reducible rfl) ?_) | (refine RG.skip (by rfl) ?_)); simp only [Act.put, List.setIfInBounds_toArray, List.set_cons_zero, List.set_cons_succ])
          refine RG.done ?_
          go_wp2_with fail
          have hlt := HLT.out
          go_roundw
          case rel => exact ⟨i + 1, by omega, by go_num, HB9⟩
          case measure => simp [intOf]; omega
        · obtain rfl : i = n := by omega
          have q1 : decide ((i : Int) < (i : Int)) = false := by simp
          have q2 : decide (i < i) = false := by simp
          have HB5 := Lib.hid (HB2.out.trans (HB.out.mono HB2.out.size))
          clear HA HF HX HU2 hlt HB HB2
          go_wp2_with fail
          refine (HAW.out wr).mono ?_
          rintro e w8 ⟨rfl, hb8⟩
          have HB8 := Lib.hid (below2 HB5.out hb8)
          clear hb8 HAW HB5
          go_wp2_with fail
          go_ret
          exact ⟨rfl, HB8.out⟩
  · rw [hS, if_neg (by simp)]
    clear hx hS HU2
    cases b1 with
    | false =>
      go_wp2_with fail
      refine (HAW.out w2).mono ?_
      rintro e w8 ⟨rfl, hb8⟩
      have HB8 := Lib.hid (below2 HB2.out hb8)
      clear hb8 HAW HB2
      go_wp2_with fail
      go_ret
      exact ⟨rfl, HB8.out⟩
    | true =>
      go_wp2_with fail
      refine (HAW.out w2).mono ?_
      rintro e w8 ⟨rfl, hb8⟩
      have HB8 := Lib.hid (below2 HB2.out hb8)
      clear hb8 HAW HB2
      go_wp2_with fail
      go_ret
      exact ⟨rfl, HB8.out⟩
end Go.Proofs.Ythgfaadlnffpcaa.ST
