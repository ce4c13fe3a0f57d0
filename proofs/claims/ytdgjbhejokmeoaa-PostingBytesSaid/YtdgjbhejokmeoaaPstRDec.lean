/-
  The reference's Decode: the row that has these bytes. Condition: fewer than 10^9 bytes.
-/
import Derived.Test.YtdgjbhejokmeoaaPstRPost
import Derived.Test.YtdgjbhejokmeoaaPstREnc
import Derived.Test.YtdgjbhejokmeoaaPstDec
set_option linter.unusedVariables false
namespace Go.Proofs.Ytdgjbhejokmeoaa.PW
open Go.RowKit Go.Proofs.Ytdgjbhejokmeoaa.MM Go.Proofs.Ytdgjbhejokmeoaa.PM Go.Proofs.Ytdgjbhejokmeoaa.VM

theorem own_int_apt {B B' : Nat} {w : World} {v : Value} {zs : List Int} (h : OwnI B' w v zs) : IOn (Apt B w) w v zs := by
  rcases h.2 with ⟨hv, h0⟩ | ⟨g, cap, cur, hv, hg, hh, hn, hm, hs, ht⟩
  · have : zs = [] := List.eq_nil_of_length_eq_zero h0
    subst this
    rw [hv]
    exact IOn.nil_ _ _
  · obtain ⟨p, c, hv', i1, i2, i3, i4⟩ := OwnI.ion h
    refine ⟨p, c, hv', i1, i2, i3, ?_⟩
    rcases i4 with i4 | ⟨b, off, hp, hb, _, hc⟩
    · exact .inl i4
    · refine .inr ⟨b, off, hp, hb, .inr fun cur2 fr hh2 => ?_, hc⟩
      rw [hv, hp] at hv'
      simp only [Value.slice.injEq, Option.some.injEq, Addr.mk.injEq] at hv'
      rw [← hv'.1.1, hh] at hh2
      have := Option.some.inj hh2
      simp at this
theorem same_bytes (l m : List UInt8) : ((⟨l.toArray⟩ : ByteArray).toList == (⟨m.toArray⟩ : ByteArray).toList) = decide (l = m) := by
  rw [Lib.toList_data, Lib.toList_data]
  rw [Bool.eq_iff_iff]
  simp

set_option maxRecDepth 100000 in
set_option maxHeartbeats 8000000 in
theorem rdecode_any (v : Value) (b : List UInt8) (w : World) (hr : BRow w v b) (hb : b.length ≤ 1000000000) : Calls Try.prog 21 #[v] w (DecLeft (decR (decO b)) w) := by
  have hbl : b.length < 4611686018427387904 := by omega
  have HNO : Hid (NoRow b → decR (decO b) = ([], 80)) := Lib.hid (fun h => by rw [decO_none h]; rfl)
  have HYES : Hid (∀ ps, Dec b ps → decR (decO b) = (ps, 0)) := Lib.hid (fun ps h => by rw [decO_some hbl h]; rfl)
  obtain ⟨RES, hRES⟩ : ∃ R, decR (decO b) = R := ⟨_, rfl⟩
  rw [hRES] at HNO HYES ⊢
  have hg1 := rget_in w.heap.size v b 65536 w hr (Nat.le_refl _) (by omega)
  have HRV := Lib.hid hr
  obtain ⟨pv, cv, rfl, hv1, hv2⟩ := BIn.shape hr
  unfold maxLen at hv2
  obtain ⟨nb, hnb⟩ : ∃ n, b.length = n := ⟨_, rfl⟩
  have HNB := Lib.hid hnb
  rw [hnb] at hg1 HRV hv1 hb ⊢
  clear hr hRES
  rcases getR_cases 65536 b with ⟨n, l1, h1, e1, hn, hl1⟩ | ⟨h1, e1⟩
  · rw [show ((65536 : Nat) : Int) = 65536 from rfl, e1] at hg1
    have HG1 := Lib.hid hg1
    have HC0 := Lib.hid (compR_start hbl h1)
    rw [hnb] at hl1
    clear hg1 e1 h1 hnb
    go_enter Try.func21, Try.ntmps21
    go_wp2_with fail
    refine HG1.out.mono ?_
    rintro e w2 ⟨v2, rfl, hv2, hb2⟩
    dsimp only at hv2 ⊢
    have HB2 := Lib.hid hb2
    have hs2 := hb2.size
    by_cases hlong : nb < n
    · have HN := Lib.hid (HNO.out (compR_long HC0.out (by rw [HNB.out]; exact hlong)))
      have t1 : decide (nb < n) = true := decide_eq_true hlong
      clear hv2 hb2 HG1
      go_wp2_with fail
      go_ret2
      rw [HN.out]
      exact ⟨_, rfl, POn.nil_ _ _, HB2.out⟩
    have t1 : decide (nb < n) = false := decide_eq_false hlong
    have HHD := Lib.hid (rheads_in w.heap.size v2 b l1 n w2 hv2 hs2 (by rw [HNB.out]; exact hb) (by omega) HC0.out)
    clear hv2 hb2 HG1
    go_wp2_with fail
    refine HHD.out.mono ?_
    rintro e w3 ⟨v3, l3, ok3, rfl, hv3, hb3, hl3, hor⟩
    have HB3 := Lib.hid (grow HB2.out hb3)
    rcases hor with ⟨rfl, hc3⟩ | ⟨rfl, hno⟩
    · have HC3 := Lib.hid (compR_end hc3)
      have HV3 := Lib.hid hv3
      have HO0 : Hid (OwnP w.heap.size w3 (.slice none 0 0) []) := Lib.hid (OwnP.nil_ _ _)
      have HN0 : Hid (nextL 0 [] = -1 + 1) := Lib.hid rfl
      clear hv3 hb3 hc3 HHD
      go_wp2_with fail
      go_loopw [5, 7, 8, 9] (fun u lv av iv wr => ∃ (j : Nat) (A : Int) (ps : List Post) (lk : List UInt8), j ≤ n ∧ iv = .int .i64 j ∧ av = .int .i64 A ∧ -1 ≤ A ∧ A ≤ 65536 * (j : Int) ∧ sumL ps + lk.length ≤ nb ∧ Hid (nextL 0 ps = A + 1) ∧ Hid (ps.length = j) ∧ Hid (Comp b n j ps lk) ∧ Hid (BIn w.heap.size wr u lk) ∧ Hid (OwnP w.heap.size wr lv ps) ∧ Hid (Below w.heap.size w wr)) (fun _ _ _ iv _ => n - (intOf iv).toNat)
      case atStart => exact ⟨0, -1, [], l3, by omega, rfl, rfl, by omega, by omega, by simp [sumL]; omega, HN0, Lib.hid rfl, HC3, HV3, HO0, HB3⟩
      case round =>
        obtain ⟨j, A, ps, lk, hj, rfl, rfl, hA0, hA1, hsum, HNx, HPL, HC, HV, HO, HB⟩ := hrel
        clear HN0 HC3 HV3 HO0
        have hsz := HB.out.size
        by_cases hlt : j < n
        · have t2 : decide ((j : Int) < (n : Int)) = true := by simp; omega
          have HP := Lib.hid (rpost_in w.heap.size u5 lk A wr HV.out hsz (by omega) hA0 (by omega))
          go_wp2_with fail
          refine HP.out.mono ?_
          rintro e w5 ⟨z, qs, x, v5, l5, ok5, rfl, hv5, hx5, hb5, hql, hz0, hz1, hor5⟩
          have hal : Below w5.heap.size w5 (w5.alloc (.cells #[.int .i64 z, x] 47)) := (Below.refl _ _).alloc (Nat.le_refl _) _
          rcases hor5 with ⟨rfl, hp5⟩ | ⟨rfl, hp5⟩
          · have hst := comp_next HC.out hlt (by rw [HNx.out]; exact hp5)
            have hx6 := OwnI.keep hx5 hal
            have HX6 := Lib.hid (own_int_apt (B := w.heap.size) hx6)
            have HO6 := Lib.hid ((HO.out.keep hb5).alloc (.cells #[.int .i64 z, x] 47))
            have HB6 := Lib.hid ((HB.out.trans (hb5.mono hsz)).alloc (by have := hb5.size; omega) (.cells #[.int .i64 z, x] 47))
            have HV6 := Lib.hid (hv5.below (hal.mono (by have := hb5.size; omega)))
            have HST := Lib.hid hst
            have hsum2 : sumL (ps ++ [(z, qs)]) + l5.length ≤ nb := by rw [sumL_snoc]; dsimp only; omega
            have hzA : z ≤ 65536 * ((j + 1 : Nat) : Int) := by omega
            have HNx2 : Hid (nextL 0 (ps ++ [(z, qs)]) = z + 1) := Lib.hid (nextL_snoc _ _)
            have HPL2 : Hid ((ps ++ [(z, qs)]).length = j + 1) := Lib.hid (by rw [List.length_append, HPL.out]; rfl)
            have hs6 : w.heap.size ≤ (w5.alloc (.cells #[.int .i64 z, x] 47)).heap.size := HB6.out.size
            obtain ⟨px, cx, rfl, _⟩ := (OwnI.irow hx5).shape
            obtain ⟨nq, hnq⟩ : ∃ n, qs.length = n := ⟨_, rfl⟩
            rw [hnq] at HX6 HO6 HB6 HV6 hs6 ⊢
            have HSZ : Hid ((w5.alloc (.cells #[.int .i64 z, .slice px nq cx] 47)).heap.size = w5.heap.size + 1) := Lib.hid (by simp)
            obtain ⟨pl, cl, rfl, _⟩ := HO.out.shape
            obtain ⟨np, hnp⟩ : ∃ n, ps.length = n := ⟨_, rfl⟩
            rw [hnp] at HO6 ⊢
            have HPN := Lib.hid hnp
            have HOL : Hid ((Value.slice pl np cl).ownBlock ≠ some w5.heap.size) := Lib.hid (fun e => by have h1 := HO.out.lt w5.heap.size (by rw [hnp]; exact e); have h2 := hb5.size; omega)
            clear hst hx6 hp5 hx5 hv5 hb5 hal hnq hnp HP HO HV HB HC HNx
            go_wp2_with (at_builtin; (refine wpList_append_post rfl _ _ rfl w.heap.size _ ps _ z _ qs rfl rfl HO6.out HX6.out (congrArg (fun k => Value.slice (some ⟨k, 0, none⟩) 1 1) HSZ.out.symm) (by rw [HPL.out]; omega) hs6 ?_))
            intro v7 w7 ho7 hb7 hk7
            have HO7 := Lib.hid ho7
            have HB7 := Lib.hid (HB6.out.trans hb7)
            have HV7 := Lib.hid (HV6.out.below hb7)
            have c0 : w7.cell? ⟨w5.heap.size, 0, none⟩ = some (.int .i64 z) := by rw [cell_of_row w7 _ 0 _ _ _ ((hk7.block w5.heap.size (by rw [HSZ.out]; omega) HOL.out).trans (heap_alloc_new _ _))]; rfl
            clear hk7 ho7 hb7 HO6 HB6 HV6 HX6
            go_wp2_with fail
            go_roundw
            case rel => exact ⟨j + 1, z, _, l5, by omega, by go_num, rfl, by omega, hzA, hsum2, HNx2, HPL2, HST, HV7, HO7, HB7⟩
            case measure => simp [intOf]; omega
          · have HN := Lib.hid (HNO.out (comp_no HC.out hlt (by rw [HNx.out]; exact hp5)))
            have HB6 := Lib.hid ((HB.out.trans (hb5.mono hsz)).alloc (by have := hb5.size; omega) (.cells #[.int .i64 z, x] 47))
            obtain ⟨px, cx, rfl, _⟩ := (OwnI.irow hx5).shape
            obtain ⟨nq, hnq⟩ : ∃ n, qs.length = n := ⟨_, rfl⟩
            rw [hnq] at HB6 ⊢
            clear hp5 hx5 hv5 hb5 hal hnq HP
            go_wp2_with fail
            go_ret2
            rw [HN.out]
            exact ⟨_, rfl, POn.nil_ _ _, HB6.out⟩
        · obtain rfl : j = n := by omega
          have t2 : decide ((j : Int) < (j : Int)) = false := by simp
          have hrow := HO.out.prow
          have HE := Lib.hid (renc_any u7 ps wr hrow (by rw [HPL.out]; omega) (by omega))
          have HROW := Lib.hid hrow
          have HALL := Lib.hid (fun h => HNO.out (comp_all HC.out h))
          clear hrow
          unfold encR at HE
          cases hok : isL ps with
          | false =>
            rw [hok, if_neg (by simp)] at HE
            have HN := Lib.hid (HALL.out (fun hd => by have := hd.1; rw [hok] at this; cases this))
            clear hok HV HO HC HALL HROW
            go_wp2_with fail
            refine HE.out.mono ?_
            rintro e w6 ⟨v6, rfl, ho6, hb6⟩
            dsimp only at ho6 ⊢
            have HB6 := Lib.hid (grow HB.out hb6)
            clear ho6 hb6 HE
            go_wp2_with fail
            go_ret2
            rw [HN.out]
            exact ⟨_, rfl, POn.nil_ _ _, HB6.out⟩
          | true =>
            rw [hok, if_pos rfl] at HE
            go_wp2_with fail
            refine HE.out.mono ?_
            rintro e w6 ⟨v6, rfl, ho6, hb6⟩
            dsimp only at ho6 ⊢
            have HB6 := Lib.hid (grow HB.out hb6)
            have c1 := BIn.conv (OwnB.brow ho6)
            have c2 := BIn.conv (HRV.out.below HB6.out)
            have hq := same_bytes (encL ps) b
            have HROW6 := Lib.hid (HROW.out.below hb6)
            by_cases heq : encL ps = b
            · have HY := Lib.hid (HYES.out ps ⟨hok, heq⟩)
              rw [decide_eq_true heq] at hq
              obtain ⟨S1, hS1⟩ : ∃ S : ByteArray, (⟨(encL ps).toArray⟩ : ByteArray) = S := ⟨_, rfl⟩
              obtain ⟨S2, hS2⟩ : ∃ S : ByteArray, (⟨b.toArray⟩ : ByteArray) = S := ⟨_, rfl⟩
              rw [hS1] at c1 hq
              rw [hS2] at c2 hq
              clear hok heq hS1 hS2 HV HO HC HALL HROW ho6 hb6 HE
              go_wp2_with fail
              go_ret2
              rw [HY.out]
              exact ⟨_, rfl, HROW6.out, HB6.out⟩
            · have HN := Lib.hid (HALL.out (fun hd => heq hd.2))
              rw [decide_eq_false heq] at hq
              obtain ⟨S1, hS1⟩ : ∃ S : ByteArray, (⟨(encL ps).toArray⟩ : ByteArray) = S := ⟨_, rfl⟩
              obtain ⟨S2, hS2⟩ : ∃ S : ByteArray, (⟨b.toArray⟩ : ByteArray) = S := ⟨_, rfl⟩
              rw [hS1] at c1 hq
              rw [hS2] at c2 hq
              clear hok heq hS1 hS2 HV HO HC HALL HROW ho6 hb6 HE
              go_wp2_with fail
              go_ret2
              rw [HN.out]
              exact ⟨_, rfl, POn.nil_ _ _, HB6.out⟩
    · have HN := Lib.hid (HNO.out hno)
      clear hv3 hb3 HHD
      go_wp2_with fail
      go_ret2
      rw [HN.out]
      exact ⟨_, rfl, POn.nil_ _ _, HB3.out⟩
  · rw [show ((65536 : Nat) : Int) = 65536 from rfl, e1] at hg1
    have HG1 := Lib.hid hg1
    have HN := Lib.hid (HNO.out (compR_none h1))
    clear hg1 e1 h1 hnb
    go_enter Try.func21, Try.ntmps21
    go_wp2_with fail
    refine HG1.out.mono ?_
    rintro e w2 ⟨v2, rfl, hv2, hb2⟩
    dsimp only at hv2 ⊢
    have HB2 := Lib.hid hb2
    clear hv2 hb2 HG1
    go_wp2_with fail
    go_ret2
    rw [HN.out]
    exact ⟨_, rfl, POn.nil_ _ _, HB2.out⟩
end Go.Proofs.Ytdgjbhejokmeoaa.PW
