/-
  The code's Pack: what the plain lists say. Condition: at most 65536 bytes.
-/
import Derived.Test.YtoohkhcmakcggaaLzAdd
import Derived.Test.YtoohkhcmakcggaaLzPutS
set_option linter.unusedVariables false
namespace Go.Proofs.Ytoohkhcmakcggaa.LZ
open Go.RowKit Go.Proofs.Ytoohkhcmakcggaa.MM Go.Maps

theorem add_any (B g mb ub n a capu : Nat) (vb : Value) (b : List UInt8) (D : DataW Unit) (U : List Int) (w : World) (hp : PlAt w g vb mb (.slice (some ⟨ub, 0, none⟩) b.length capu)) (hb : BIn B w vb b) (hB : B ≤ w.heap.size) (hm : MapAt w mb n D) (hu : UAt w ub U)
    (hP : Places b a U (topD D)) (ha : a < b.length) (hl : b.length ≤ 65536) (hn : n ≤ 65536) (h0 : a = 0 → D = .map []) (hcu : b.length ≤ capu) (bm : B ≤ mb) (bu : B ≤ ub) : Calls Try.prog 19 #[.pointer (some ⟨g, 0, none⟩), .int .i64 a] w (AddLeft b a mb ub n w) := by
  by_cases h : a + 4 ≤ b.length
  · exact add_go B g mb ub n a capu vb b D U w hp hb hB hm hu hP h hl hn h0 hcu bm bu
  · exact add_pass B g mb ub n a capu vb b D U w hp hb hm hu hP ha (by omega)
theorem OwnS.base {S : Nat → Prop} {B : Nat} {w : World} {v : Value} {l : List UInt8} (h : OwnS S w v l) (hS : ∀ k, k < B → S k) : OwnB B w v l := by
  refine ⟨h.1.1, ?_⟩
  rcases h.1.2 with h0 | ⟨g, cap, cur, hv, hg, rest⟩
  · exact .inl h0
  · refine .inr ⟨g, cap, cur, hv, ?_, rest⟩
    have := h.2 g (by rw [hv]; rfl)
    rcases Nat.lt_or_ge g B with hlt | hge
    · exact absurd (hS g hlt) this
    · exact hge
/-- The blocks that stay while the row is appended to. -/
def SetOf (B g mb ub : Nat) : Nat → Prop := fun k => k < B ∨ k = g ∨ k = mb ∨ k = ub
theorem own_apart_all {B g mb ub n : Nat} {w : World} {v vb vu : Value} {l : List UInt8} {U : List Int} {D : DataW Unit} (h : OwnB B w v l) (hp : PlAt w g vb mb vu) (hm : MapAt w mb n D) (hu : UAt w ub U) : OwnS (SetOf B g mb ub) w v l := by
  have h' : OwnB 0 w v l := h.weaken (Nat.zero_le _)
  refine ⟨h', fun k hk hs => ?_⟩
  obtain ⟨es, clock, hmb, _⟩ := hm
  obtain ⟨cur, hub, _⟩ := hu
  rcases hs with hs | hs | hs | hs
  · have := (World.ownsRow.lt h k hk).1; omega
  · exact OwnS.apart h' hp (fun cs fr e => by injection e with _ e _; exact absurd e (by decide)) k hk hs
  · exact OwnS.apart h' hmb (fun cs fr e => by cases e) k hk hs
  · exact OwnS.apart h' hub (fun cs fr e => by injection e with _ e _; exact absurd e (by decide)) k hk hs

set_option maxRecDepth 100000 in
set_option maxHeartbeats 4000000 in
theorem pack_any (v : Value) (b : List UInt8) (w : World) (hr : BRow w v b) (hlen : b.length ≤ 65536) : Calls Try.prog 8 #[v] w (PackLeft w.heap.size (packL b) w) := by
  obtain ⟨p, cap, rfl, hlc, hcm⟩ := hr.shape
  unfold maxLen at hcm
  have hbd := pack_bound b
  obtain ⟨R, hR⟩ : ∃ R, packL b = R := ⟨_, rfl⟩
  have h0 : fourB b.length ++ packG b b.length 0 0 = R := (packG_all b).trans hR
  rw [hR] at hbd ⊢
  have HAH := Lib.hid (ahead_any w.heap.size b.length (.slice none 0 0) [] w (own_nil_ _ _) (by omega) (by simp) (Nat.le_refl _))
  have HR0 := Lib.hid (show BIn w.heap.size w (.slice p b.length cap) b from hr)
  have H0 := Lib.hid h0
  have t0 : decide ((b.length : Int) > 16777216) = false := by simp; omega
  have t00 : decide (16777216 < b.length) = false := by simp; omega
  clear hr h0 hR
  go_enter Try.func8, Try.ntmps8
  go_wp2_with fail
  refine HAH.out.mono ?_
  rintro e w1 ⟨v1, rfl, ho1, hb1⟩
  rw [List.nil_append] at ho1
  have HO1 := Lib.hid ho1
  have HB1 := Lib.hid hb1
  have HN := Lib.hid (newp_any _ b w1 ((HR0.out.below hb1).row hb1.size) hlen)
  obtain ⟨p1, cap1, rfl, _, _⟩ := ho1.brow.shape
  clear ho1 hb1 HAH
  go_wp2_with fail
  refine HN.out.mono ?_
  rintro e w2 ⟨g, mb, ub, capu, rfl, hp, hm, hu, hcu, hb2, lg, lm, lu⟩
  have hs1 := HB1.out.size
  have hb12 := HB1.out.trans (hb2.mono hs1)
  have HO2 := Lib.hid (own_apart_all (HO1.out.keep hb2) hp hm hu)
  have hplt := hp.lt
  have hmlt := World.ownsMap.lt hm
  have hult := hu.lt
  have HSB := Lib.hid (show ∀ W : World, w2.heap.size ≤ W.heap.size → ∀ k, SetOf w.heap.size g mb ub k → k < W.heap.size from fun W hW k hk => by
    have := hb12.size
    rcases hk with hk | hk | hk | hk <;> omega)
  have gm := hp.ne_map hm
  have gu := hp.ne_cells hu
  have HPL := Lib.hid (show ∀ W, Kep (fun k => k < w.heap.size ∨ k = g) w2 W → PlAt W g (.slice p b.length cap) mb (.slice (some ⟨ub, 0, none⟩) b.length capu) from fun W h => hp.kep h (.inr rfl))
  have HBL := Lib.hid (show ∀ W, Kep (fun k => k < w.heap.size ∨ k = g) w2 W → Below w.heap.size w W from fun W h => hb12.trans (h.below hb12.size (fun k hk => .inl hk)))
  have HM2 := Lib.hid hm
  have HU2 := Lib.hid hu
  have HPC := Lib.hid (Places.none b (List.replicate (2 * b.length) 0) (by simp))
  rw [← topD_none] at HPC
  clear hp hm hu hb2 hb12 HN HB1 HO1
  go_wp2_with fail
  go_loopw [4, 6, 20] (fun o tv iv wr => ∃ (a told n : Nat) (X : List UInt8) (D : DataW Unit) (U : List Int), a ≤ b.length ∧ told ≤ b.length ∧ n ≤ a ∧ tv = .int .i64 told ∧ iv = .int .i64 a ∧ Hid (a = 0 → D = .map []) ∧ Hid (X ++ packG b (b.length - a) told a = R) ∧ Hid (OwnS (SetOf w.heap.size g mb ub) wr o X) ∧
    Hid (MapAt wr mb n D) ∧ Hid (UAt wr ub U) ∧ Hid (Places b a U (topD D)) ∧ Hid (Kep (fun k => k < w.heap.size ∨ k = g) w2 wr)) (fun _ _ iv _ => b.length - (intOf iv).toNat)
  case atStart => exact ⟨0, 0, 0, fourB b.length, .map [], List.replicate (2 * b.length) 0, by omega, by omega, by omega, rfl, rfl, Lib.hid (fun _ => rfl), H0, HO2, HM2, HU2, HPC, Lib.hid (Kep.refl _ _)⟩
  case round =>
    obtain ⟨a, told, n, X, D, U, hab, htb, hna, rfl, rfl, HD0, HX, HO, HM, HU, HPP, HKP⟩ := hrel
    clear H0 HO2 HM2 HU2 HPC
    have hXl : X.length ≤ 40000000 := by
      have : (X ++ packG b (b.length - a) told a).length = R.length := by rw [HX.out]
      rw [List.length_append] at this
      omega
    have hszr := HKP.out.size
    have hbl := HBL.out wr HKP.out
    have hszw := hbl.size
    have HBR := Lib.hid hbl
    have hpl := HPL.out wr HKP.out
    have hrow := HR0.out.below hbl
    obtain ⟨px, capx, rfl, _, _⟩ := HO.out.own.brow.shape
    by_cases hlt : a < b.length
    · have HA := Lib.hid (add_any w.heap.size g mb ub n a capu _ b D U wr hpl hrow hszw HM.out HU.out HPP.out hlt hlen (by omega) HD0.out hcu (by omega) (by omega))
      clear hbl hpl hrow
      have hx := HX.out
      rw [show b.length - a = (b.length - (a + 1)) + 1 by omega] at hx
      unfold packG at hx
      obtain ⟨far, long, hfl⟩ : ∃ far long, matchL b a = (far, long) := ⟨_, _, rfl⟩
      have hmi := matchL_is b a
      rw [hfl] at hx hmi
      dsimp only at hx hmi
      unfold AddLeft at HA
      rw [hfl] at HA
      have t1 : decide ((a : Int) < (b.length : Int)) = true := by simp; omega
      have t2 : decide (a < b.length) = true := by simp; omega
      clear hfl
      go_wp2_with fail
      refine HA.out.mono ?_
      rintro e w3 ⟨n3, D3, U3, rfl, hn3, hm3, hu3, hp3, hk3⟩
      have hkp : Kep (fun k => k < w.heap.size ∨ k = g) w2 w3 := HKP.out.trans (hk3.mono (fun k hk => by
        rcases hk with hk | hk
        · constructor <;> omega
        · subst hk; exact ⟨gm, gu⟩))
      have ho3 : OwnS (SetOf w.heap.size g mb ub) w3 (.slice px X.length capx) X := HO.out.kep hk3 (fun k hk => by
        have := HO.out.2 k hk
        exact ⟨fun e => this (.inr (.inr (.inl e))), fun e => this (.inr (.inr (.inr e)))⟩)
      have HKP3 := Lib.hid hkp
      have HO3 := Lib.hid ho3
      have HM3 := Lib.hid hm3
      have HU3 := Lib.hid hu3
      have HP3 := Lib.hid hp3
      have hsz3 := hk3.size
      clear hm3 hu3 hp3 hk3 hkp ho3 HA HM HU HPP HO HKP HD0 HBR
      by_cases hc : a < told ∨ long = 0
      · rw [if_pos hc] at hx
        have HX3 := Lib.hid hx
        clear hx
        by_cases hat : a < told
        · have t3 : decide ((a : Int) < (told : Int)) = true := by simp; omega
          have t4 : decide (a < told) = true := by simp; omega
          clear hc hat
          go_wp2_with fail
          go_roundw
          case rel => exact ⟨a + 1, told, n3, X, D3, U3, by omega, by omega, by omega, rfl, by go_num, Lib.hid (fun h => by omega), HX3, HO3, HM3, HU3, HP3, HKP3⟩
          case measure => simp [intOf]; omega
        · have t3 : decide ((a : Int) < (told : Int)) = false := by simp; omega
          have t4 : decide (a < told) = false := by simp; omega
          have t5 : ((long : Int) == 0) = true := by simp; omega
          have t6 : long = 0 := by omega
          clear hc hat t6
          go_wp2_with fail
          go_roundw
          case rel => exact ⟨a + 1, told, n3, X, D3, U3, by omega, by omega, by omega, rfl, by go_num, Lib.hid (fun h => by omega), HX3, HO3, HM3, HU3, HP3, HKP3⟩
          case measure => simp [intOf]; omega
      · rw [if_neg hc] at hx
        have hat : told ≤ a := by omega
        have hl0 : ¬ long = 0 := by omega
        have t3 : decide ((a : Int) < (told : Int)) = false := by simp; omega
        have t4 : decide (a < told) = false := by simp; omega
        have t5 : ((long : Int) == 0) = false := by rw [beq_eq_false_iff_ne]; omega
        have t7 : decide (long = 0) = false := by simp; omega
        obtain ⟨m1, m2, m3, m4, m5, m6⟩ : 1 ≤ far ∧ far ≤ a ∧ far ≤ 65535 ∧ 4 ≤ long ∧ long ≤ 131 ∧ a + long ≤ b.length := by
          rcases hmi with hmi | ⟨m1, m2, m3, m4, m5, m6, _⟩
          · injection hmi with _ e; exact absurd e hl0
          · exact ⟨m1, m2, m3, m4, m5, m6⟩
        have hbl3 := HBL.out w3 HKP3.out
        obtain ⟨blk, off, hp, hblk, _⟩ := (HR0.out).at_ (k := a) hlt
        subst hp
        have hcapt : ¬ cap = told := by omega
        have hprow := part_row (i := told) (j := a) (HR0.out.below hbl3) hat (by omega) hcapt
        have hppl := part_len (b := b) (i := told) (j := a) hat (by omega)
        generalize part b told a = Q at *
        rw [← hppl] at hprow
        have i1 : (told : Int) ≤ (a : Int) := by omega
        have i2 : (a : Int) ≤ (cap : Int) := by omega
        have HRUN := Lib.hid (aruns_keep (SetOf w.heap.size g mb ub) w.heap.size _ _ X Q w3 HO3.out hprow (by omega) (fun k hk => .inl hk) hbl3.size (HSB.out w3 HKP3.out.size))
        rw [hppl] at HRUN
        have HX3 := Lib.hid hx
        have hrl := runsL_len Q
        have HQ := Lib.hid hppl
        clear hx hc hmi hprow hppl hbl3
        go_wp2_with fail
        refine HRUN.out.mono ?_
        rintro e w4 ⟨v4, rfl, ho4, hk4⟩
        obtain ⟨p4, cap4, rfl, _, _⟩ := ho4.own.brow.shape
        have hXQ : (X ++ runsL Q).length ≤ 1000000000 := by have := HQ.out; rw [List.length_append]; omega
        have HMAT := Lib.hid (amat_keep (SetOf w.heap.size g mb ub) far long _ _ w4 ho4 m3 m5 m4 (by omega) (HSB.out w4 (Nat.le_trans HKP3.out.size hk4.size)))
        have HK4 := Lib.hid hk4
        obtain ⟨Y, hY⟩ : ∃ Y, X ++ runsL Q = Y := ⟨_, rfl⟩
        rw [hY] at HMAT
        have HY := Lib.hid hY
        obtain ⟨Z, hZ⟩ : ∃ Z, Y ++ matB far long = Z := ⟨_, rfl⟩
        rw [hZ] at HMAT
        have HZ := Lib.hid hZ
        simp only [hY]
        clear hZ
        clear ho4 hk4 HRUN hXQ
        go_wp2_with fail
        refine HMAT.out.mono ?_
        rintro e w5 ⟨v5, rfl, ho5, hk5⟩
        have hk35 := HK4.out.trans hk5
        have HO5 := Lib.hid ho5
        have HM5 := Lib.hid (HM3.out.kep hk35 (.inr (.inr (.inl rfl))))
        have HU5 := Lib.hid (HU3.out.kep hk35 (.inr (.inr (.inr rfl))))
        have HK5 := Lib.hid (HKP3.out.trans (hk35.mono (fun k hk => by
          rcases hk with hk | hk
          · exact .inl hk
          · exact .inr (.inl hk))))
        obtain ⟨p5, cap5, rfl, _, _⟩ := ho5.own.brow.shape
        clear ho5 hk5 hk35 HMAT
        go_wp2_with fail
        go_roundw
        case rel =>
          have hx := HX3.out
          rw [← List.append_assoc, ← List.append_assoc, HY.out, HZ.out] at hx
          exact ⟨a + 1, a + long, n3, Z, D3, U3, by omega, by omega, by omega, by go_num, by go_num, Lib.hid (fun h => by omega), Lib.hid hx, HO5, HM5, HU5, HP3, HK5⟩
        case measure => simp [intOf]; omega
    · obtain rfl : a = b.length := by omega
      have hx := HX.out
      rw [Nat.sub_self] at hx
      unfold packG at hx
      have hD := BIn.drop3 (show BIn w.heap.size wr (.slice p b.length cap) b from hrow) told htb
      have hdl : (b.drop told).length = b.length - told := List.length_drop
      generalize b.drop told = Q at *
      have HRUN := Lib.hid (fun u (hu : BIn w.heap.size wr u Q) => aruns_keep (SetOf w.heap.size g mb ub) w.heap.size _ u X Q wr HO.out hu (by omega) (fun k hk => .inl hk) hszw (HSB.out wr hszr))
      rw [hx] at HRUN
      have HD := Lib.hid hD
      have i1 : (told : Int) ≤ (b.length : Int) := by omega
      have i2 : (told : Int) ≤ (cap : Int) := by omega
      clear hbl hpl hrow hD hx HX HO HM HU HPP HD0 hlt
      go_wp2_with fail
      all_goals (
        refine (HRUN.out _ (by first | exact HD.out.1 (by assumption) | exact HD.out.2 (by assumption))).mono ?_
        rintro e w4 ⟨v4, rfl, ho4, hk4⟩
        have HE := Lib.hid (show PackLeft w.heap.size R w (.returned (.tuple #[v4, .int .i64 0])) w4 from ⟨v4, rfl, ho4.base (fun k hk => .inl hk), HBR.out.trans (hk4.below hszw (fun k hk => .inl hk))⟩)
        clear ho4 hk4
        go_wp2_with fail
        go_ret2
        exact HE.out)
end Go.Proofs.Ytoohkhcmakcggaa.LZ
