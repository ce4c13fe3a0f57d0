/-
  The law of P8.3 walked: it returns true at any row, any bytes, any Doc. No condition.
-/
import Derived.Test.YtdgjbhejokmeoaaPstAwake
import Derived.Test.YtdgjbhejokmeoaaPstFind
import Derived.Test.YtdgjbhejokmeoaaPstRDec
set_option linter.unusedVariables false
namespace Go.Proofs.Ytdgjbhejokmeoaa.PW
open Go.RowKit Go.Proofs.Ytdgjbhejokmeoaa.MM Go.Proofs.Ytdgjbhejokmeoaa.PM Go.Proofs.Ytdgjbhejokmeoaa.VM

theorem findL_at {ps : List Post} (h : isL ps = true) {i : Nat} (hi : i < ps.length) : findL ps ps[i].1 = some ps[i].2 := by
  refine (half_find h (i := i) ⟨fun k hk hki => rise_lt h hki hi, fun k hk hki => ?_⟩).1 hi rfl
  by_cases e : k = i
  · subst e; exact Int.le_refl _
  · have := rise_lt h (show i < k by omega) hk
    omega
theorem encL_len2 (ps : List Post) (h1 : ps.length ≤ 70) (h2 : sumL ps ≤ 1400) : (encL ps).length ≤ 20000 := by
  have a1 := bytesL_length ps.length
  have a2 := headsR_len ps (cnt ps.length) 0
  have a3 := bodyL_len ps 0
  have a4 : cnt ps.length ≤ 70 := by unfold cnt; omega
  unfold encL
  rw [List.length_append, List.length_append]
  omega
theorem findR_dec (b : List UInt8) (d : Int) : findR b d = (findL (decR (decO b)).1 d, (decR (decO b)).2) := by
  unfold findR decR
  cases decO b with
  | none => rfl
  | some ps => rfl

set_option maxRecDepth 100000 in
set_option maxHeartbeats 8000000 in
theorem finds_walk (u v : Value) (d : Int) (A0 : List Post) (B0 : List UInt8) (w : World) (hu : PRow w u A0) (hv : BRow w v B0) : Calls Try.prog 6 #[u, v, .int .i64 d] w fun e w' => e = .returned (.bool true) ∧ Below w.heap.size w w' := by
  have HF1 := Lib.hid (few_any u A0 w hu)
  have HF2 := Lib.hid (fun W (h : Below w.heap.size w W) => cut_any v B0 W (hv.below h))
  have hl1 := fewL_len A0
  have hs1 := fewL_sum A0
  have hl2 : (B0.take 600).length ≤ 600 := by rw [List.length_take]; omega
  obtain ⟨a, ha⟩ : ∃ a, fewL A0 = a := ⟨_, rfl⟩
  obtain ⟨b, hb⟩ : ∃ b, B0.take 600 = b := ⟨_, rfl⟩
  rw [ha] at HF1 hl1 hs1
  rw [hb] at HF2 hl2
  obtain ⟨pu, cu, rfl, _⟩ := hu.shape
  obtain ⟨pv, cv, rfl, _⟩ := BIn.shape hv
  clear ha hb hu hv
  go_enter Try.func6, Try.ntmps6
  go_wp2_with fail
  refine HF1.out.mono ?_
  rintro e w1 ⟨x, rfl, hx, b1⟩
  have HF2' := Lib.hid (HF2.out w1 b1)
  have HX1 := Lib.hid hx
  have HB1 := Lib.hid b1
  clear HF1 HF2 hx b1
  go_wp2_with fail
  refine HF2'.out.mono ?_
  rintro e w2 ⟨y, rfl, rfl, hy⟩
  have hk1 := find_any y b d w1 hy (by omega)
  have hk2 := fun W (h : Below w1.heap.size w1 W) => rdecode_any y b W (hy.below h) (by omega)
  rw [findR_dec] at hk1
  obtain ⟨⟨P, F⟩, hP⟩ : ∃ R, decR (decO b) = R := ⟨_, rfl⟩
  rw [hP] at hk1
  simp only [hP] at hk2
  dsimp only at hk1 hk2
  have K3 := Lib.hid (fun W z (h : PRow W z P) => rfind_any z P d W h)
  obtain ⟨O, hO⟩ : ∃ O, findL P d = O := ⟨_, rfl⟩
  rw [hO] at hk1
  simp only [hO] at K3
  unfold FindLeft at hk1
  unfold DecLeft at hk2
  unfold FoundIn at K3
  dsimp only at hk1 hk2
  have K1 := Lib.hid hk1
  have K2 := Lib.hid hk2
  clear hk1 hk2 hP hO hy HF2'
  go_wp2_with fail
  refine K1.out.mono ?_
  rintro e w2 ⟨v2, rfl, hi2, b2⟩
  have HB2 := Lib.hid (grow HB1.out b2)
  have HX2 := Lib.hid (HX1.out.below b2)
  have HI2 := Lib.hid hi2
  have K2' := Lib.hid (K2.out w2 b2)
  clear hi2 b2 K1 K2 HX1 HB1
  go_wp2_with fail
  refine K2'.out.mono ?_
  rintro e w3 ⟨v3, rfl, hp3, b3⟩
  have HB3 := Lib.hid (grow HB2.out b3)
  have HX3 := Lib.hid (HX2.out.below b3)
  have HI3 := Lib.hid (HI2.out.keep (T := fun _ => True) (kep_below _ b3) (fun _ _ h => h))
  have K3' := Lib.hid (K3.out w3 v3 hp3)
  clear hp3 b3 K2' K3 HX2 HB2 HI2
  go_wp2_with fail
  refine K3'.out.mono ?_
  rintro e w4 ⟨v4, rfl, hi4, b4⟩
  have HB4 := Lib.hid (grow HB3.out b4)
  have HX4 := Lib.hid (HX3.out.below b4)
  have hsi := sameints_any v2 v4 (O.getD []) (O.getD []) w4 (HI3.out.keep (T := fun _ => True) (kep_below _ b4) (fun _ _ h => h)) hi4
  rw [decide_eq_true rfl] at hsi
  have K4 := Lib.hid hsi
  obtain ⟨ok, hok⟩ : ∃ s, O.isSome = s := ⟨_, rfl⟩
  rw [hok]
  clear hi4 b4 hsi K3' HX3 HB3 HI3 hok
  go_wp2_with fail
  refine K4.out.mono ?_
  rintro e w5 ⟨rfl, b5⟩
  have HB5 := Lib.hid (grow HB4.out b5)
  have HX5 := Lib.hid (HX4.out.below b5)
  have K5 := Lib.hid (renc_any x a w5 HX5.out (by omega) (by omega))
  unfold encR at K5
  clear b5 K4 HX4 HB4
  cases hIs : isL a with
  | false =>
    rw [hIs, if_neg (by simp)] at K5
    unfold EncLeft at K5
    dsimp only at K5
    clear hIs
    go_wp2_with fail
    refine K5.out.mono ?_
    rintro e w6 ⟨v6, rfl, ho6, b6⟩
    have HB6 := Lib.hid (grow HB5.out b6)
    clear ho6 b6 K5
    go_wp2_with fail
    refine (awake_any w6).mono ?_
    rintro e w7 ⟨rfl, b7⟩
    have HB7 := Lib.hid (grow HB6.out b7)
    clear b7
    go_wp2_with fail
    go_ret
    exact ⟨rfl, HB7.out⟩
  | true =>
    rw [hIs, if_pos rfl] at K5
    unfold EncLeft at K5
    dsimp only at K5
    have hEl := encL_len2 a hl1 hs1
    have KF := Lib.hid (fun W z t (h : BRow W z (encL a)) => by
      have := find_any z (encL a) t W h (by omega)
      rw [findR_dec, decO_some (by omega) ⟨hIs, rfl⟩] at this
      exact this)
    unfold FindLeft decR at KF
    dsimp only at KF
    have KAT := Lib.hid (fun i (hi : i < a.length) => findL_at hIs hi)
    obtain ⟨X, hX⟩ : ∃ X, encL a = X := ⟨_, rfl⟩
    rw [hX] at K5
    simp only [hX] at KF
    clear hIs hX hEl
    go_wp2_with fail
    refine K5.out.mono ?_
    rintro e w6 ⟨v6, rfl, ho6, b6⟩
    have HB6 := Lib.hid (grow HB5.out b6)
    have HX6 := Lib.hid (HX5.out.below b6)
    have HR6 := Lib.hid (OwnB.brow ho6)
    obtain ⟨px, cx, rfl, hxl, _⟩ := HX6.out.shape
    obtain ⟨na, hna⟩ : ∃ n, a.length = n := ⟨_, rfl⟩
    have HNA := Lib.hid hna
    rw [hna] at HX6 hxl hl1 ⊢
    have HZ0 : Hid (Below w6.heap.size w6 w6) := Lib.hid (Below.refl _ _)
    clear ho6 b6 K5 HX5 HB5 hna
    go_wp2_with fail
    go_loopw [16] (fun iv wr => ∃ i : Nat, i ≤ na ∧ iv = .int .i64 i ∧ Hid (Below w6.heap.size w6 wr)) (fun iv _ => na - (intOf iv).toNat)
    case atStart => exact ⟨0, by omega, rfl, HZ0⟩
    case round =>
      obtain ⟨i, hi, rfl, HB⟩ := hrel
      clear HZ0
      by_cases hlt : i < na
      · have t1 : decide ((i : Int) < (na : Int)) = true := by simp; omega
        have hia : i < a.length := by rw [HNA.out]; exact hlt
        obtain ⟨b', off, q, rfl, hbl, _, hc1, hc2, hq⟩ := (PRow.pon HX6.out).at_ hia
        have hc1b := (HB.out.cell (p := ⟨b', off + i * 2, none⟩) hbl).trans hc1
        have hkf := KF.out wr v6 a[i].1 (HR6.out.below HB.out)
        rw [KAT.out i hia] at hkf
        obtain ⟨⟨z, qs⟩, hz⟩ : ∃ z, a[i] = z := ⟨_, rfl⟩
        rw [hz] at hc1b hkf hq
        dsimp only [Option.isSome, Option.getD] at hc1b hkf hq
        have HQ := Lib.hid hq
        have HC2 := Lib.hid (fun W (hW : Below w6.heap.size w6 W) => (hW.cell (p := ⟨b', off + i * 2 + 1, none⟩) hbl).trans hc2)
        have K := Lib.hid hkf
        clear hq hkf hz hc1 hc2
        go_wp2_with fail
        refine K.out.mono ?_
        rintro e w8 ⟨v8, rfl, hi8, b8⟩
        have HB8 := Lib.hid (HB.out.trans (b8.mono HB.out.size))
        have c2 := HC2.out w8 HB8.out
        have hsi := sameints_any v8 q qs qs w8 hi8 (HQ.out.keep (T := fun _ => True) ⟨HB8.out.os, HB8.out.tape, HB8.out.output, HB8.out.size, fun k hk _ => HB8.out.block k hk⟩ (fun _ _ _ => trivial))
        rw [decide_eq_true rfl] at hsi
        have KS := Lib.hid hsi
        have hone : q.oneCell' = true := HQ.out.one
        obtain ⟨pq, cq, rfl, _⟩ := HQ.out.shape
        clear hi8 b8 K hsi
        go_wp2_with fail
        refine KS.out.mono ?_
        rintro e w9 ⟨rfl, b9⟩
        have HB9 := Lib.hid (HB8.out.trans (b9.mono HB8.out.size))
        clear b9 KS c2
        go_wp2_with fail
        go_roundw
        case rel => exact ⟨i + 1, by omega, by go_num, HB9⟩
        case measure => simp [intOf]; omega
      · obtain rfl : i = na := by omega
        have t1 : decide ((i : Int) < (i : Int)) = false := by simp
        have K := Lib.hid (KF.out wr v6 d (HR6.out.below HB.out))
        have KR := Lib.hid (fun W (h : Below w6.heap.size w6 W) => rfind_any _ a d W (HX6.out.below h))
        obtain ⟨Q, hQ⟩ : ∃ Q, findL a d = Q := ⟨_, rfl⟩
        rw [hQ] at K
        simp only [hQ] at KR
        unfold FoundIn at KR
        obtain ⟨ok2, hok2⟩ : ∃ s, Q.isSome = s := ⟨_, rfl⟩
        rw [hok2] at K
        simp only [hok2] at KR
        clear hQ hok2
        go_wp2_with fail
        refine K.out.mono ?_
        rintro e w8 ⟨v8, rfl, hi8, b8⟩
        have HB8 := Lib.hid (HB.out.trans (b8.mono HB.out.size))
        have KR' := Lib.hid (KR.out w8 HB8.out)
        clear hi8 b8 K KR
        go_wp2_with fail
        refine KR'.out.mono ?_
        rintro e w9 ⟨v9, rfl, hi9, b9⟩
        have HB9 := Lib.hid (HB8.out.trans (b9.mono HB8.out.size))
        clear hi9 b9 KR'
        go_wp2_with fail
        refine (awake_any w9).mono ?_
        rintro e w10 ⟨rfl, b10⟩
        have HB10 := Lib.hid (grow HB6.out (HB9.out.trans (b10.mono HB9.out.size)))
        clear b10
        go_wp2_with fail
        go_ret
        exact ⟨rfl, HB10.out⟩
end Go.Proofs.Ytdgjbhejokmeoaa.PW
