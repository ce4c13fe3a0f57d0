/-
  The reference's get, heads, post: what is taken from bytes. Condition: fewer than 2^30 bytes.
-/
import Derived.Test.YtdgjbhejokmeoaaPstRd
import Derived.Test.YtdgjbhejokmeoaaPstRDecM
import Derived.Test.YtdgjbhejokmeoaaVarRGet
import Derived.Test.YtdgjbhejokmeoaaPstForm
set_option linter.unusedVariables false
namespace Go.Proofs.Ytdgjbhejokmeoaa.PW
open Go.RowKit Go.Proofs.Ytdgjbhejokmeoaa.MM Go.Proofs.Ytdgjbhejokmeoaa.PM Go.Proofs.Ytdgjbhejokmeoaa.VM

def RGetLeft (B : Nat) (r : Nat × List UInt8 × Bool) (w : World) (e : Ending) (w' : World) : Prop := ∃ v', e = .returned (.tuple #[.int .i64 r.1, v', .bool r.2.2]) ∧ BIn B w' v' r.2.1 ∧ Below w.heap.size w w'
set_option maxRecDepth 100000 in
set_option maxHeartbeats 2000000 in
theorem rget_in (B : Nat) (v : Value) (l : List UInt8) (most : Nat) (w : World) (hv : BIn B w v l) (hB : B ≤ w.heap.size) (hm : most ≤ 4611686018427387904) : Calls Try.prog 42 #[v, .int .i64 most] w (RGetLeft B (getR most l) w) := by
  have HG := Lib.hid (VG.rget_in B v l w hv hB)
  have hw : IntKind.u64.wrap (most : Int) = (most : Int) := by rw [IntKind.wrap_u64]; omega
  rcases getS_iff l with ⟨n, r, hs, e1, e2, e3, hn⟩ | ⟨hs, e2, e3, e1⟩
  · rw [e1, e2, e3] at HG
    by_cases hok : n ≤ most
    · have hnum : numL 0 (most : Int) l = some (n, r) := by unfold numL; rw [hs]; exact if_pos ⟨by omega, by omega⟩
      rw [getR_some hnum]
      have t1 : ¬ most < n := by omega
      have t2 : decide (most < n) = false := decide_eq_false t1
      have hwn : IntKind.i64.wrap (n : Int) = (n : Int) := by rw [IntKind.wrap_i64]; omega
      clear hv hs e1 e2 e3 hok hnum
      go_enter Try.func42, Try.ntmps42
      go_wp2_with fail
      refine HG.out.mono ?_
      rintro e w1 ⟨v1, rfl, hv1, hb1⟩
      have HV1 := Lib.hid hv1
      have HB1 := Lib.hid hb1
      clear hv1 hb1 HG
      go_wp2_with fail
      go_ret3
      exact ⟨_, rfl, HV1.out, HB1.out⟩
    · have hnum : numL 0 (most : Int) l = none := by unfold numL; rw [hs]; exact if_neg (fun h => hok (by omega))
      rw [getR_none hnum]
      have t1 : most < n := by omega
      have t2 : decide (most < n) = true := decide_eq_true t1
      clear hv hs e1 e2 e3 hok hnum
      go_enter Try.func42, Try.ntmps42
      go_wp2_with fail
      refine HG.out.mono ?_
      rintro e w1 ⟨v1, rfl, hv1, hb1⟩
      have HB1 := Lib.hid hb1
      clear hv1 hb1 HG
      go_wp2_with fail
      go_ret3
      exact ⟨_, rfl, BIn.nil_ _ _, HB1.out⟩
  · have hnum : numL 0 (most : Int) l = none := by unfold numL; rw [hs]
    rw [getR_none hnum]
    rw [e1, e3] at HG
    obtain ⟨er, her⟩ : ∃ er, (getL l).2.2 = er := ⟨_, rfl⟩
    rw [her] at HG e2
    have t0 : (er != 0) = true := by rw [bne_iff_ne]; exact e2
    have t0b : (er == 0) = false := by rw [beq_eq_false_iff_ne]; exact e2
    clear hv hs e1 e2 e3 hnum her
    go_enter Try.func42, Try.ntmps42
    go_wp2_with fail
    refine HG.out.mono ?_
    rintro e w1 ⟨v1, rfl, hv1, hb1⟩
    have HB1 := Lib.hid hb1
    clear hv1 hb1 HG
    go_wp2_with fail
    go_ret3
    exact ⟨_, rfl, BIn.nil_ _ _, HB1.out⟩

def RHeadsLeft (B : Nat) (b : List UInt8) (n : Nat) (l0 : List UInt8) (w : World) (e : Ending) (w' : World) : Prop :=
  ∃ v' l ok, e = .returned (.tuple #[v', .bool ok]) ∧ BIn B w' v' l ∧ Below w.heap.size w w' ∧ l.length ≤ l0.length ∧ ((ok = true ∧ CompR b n (cnt n) l) ∨ (ok = false ∧ NoRow b))
set_option maxRecDepth 100000 in
set_option maxHeartbeats 4000000 in
theorem rheads_in (B : Nat) (v : Value) (b l : List UInt8) (n : Nat) (w : World) (hv : BIn B w v l) (hB : B ≤ w.heap.size) (hb : b.length ≤ 1000000000) (hn : n ≤ 1000000) (hc : CompR b n 0 l) : Calls Try.prog 43 #[v, .int .i64 n] w (RHeadsLeft B b n l w) := by
  have HV0 := Lib.hid hv
  have HC0 : Hid (CompR b n 0 l) := Lib.hid hc
  have HST := Lib.hid (fun i k l1 l2 x y (h : CompR b n i k) (hi : i < cnt n) h1 h2 => compR_step (m1 := 65535) (m2 := 1099511627776) (x := x) (y := y) (l1 := l1) (l2 := l2) (by omega) h hi h1 h2)
  have HN1 := Lib.hid (fun i k (h : CompR b n i k) (hi : i < cnt n) h1 => compR_none1 (by omega) h hi h1)
  have HN2 := Lib.hid (fun i k l1 x (h : CompR b n i k) (hi : i < cnt n) h1 h2 => compR_none2 (l1 := l1) (x := x) (by omega) h hi h1 h2)
  clear hv hc
  go_enter Try.func43, Try.ntmps43
  go_wp2_with fail
  go_loopw [0, 6] (fun u iv wr => ∃ (i I : Nat) (k : List UInt8), Hid (I = 32 * i) ∧ I ≤ 32 * cnt n ∧ iv = .int .i64 I ∧ Hid (CompR b n i k) ∧ k.length ≤ l.length ∧ Hid (BIn B wr u k) ∧ Hid (Below w.heap.size w wr)) (fun _ iv _ => 32 * cnt n + 1 - (intOf iv).toNat)
  case atStart => exact ⟨0, 0, l, Lib.hid rfl, by omega, rfl, HC0, Nat.le_refl _, HV0, Lib.hid (Below.refl _ _)⟩
  case round =>
    obtain ⟨i, I, k, HI, hi, rfl, HC, hkl, HV, HB⟩ := hrel
    clear HC0 HV0
    have hsz := HB.out.size
    by_cases hlt : I < n
    · have t1 : decide ((I : Int) < (n : Int)) = true := by simp; omega
      have hin : i < cnt n := by have := HI.out; unfold cnt; omega
      have HNI : Hid (I + 32 ≤ 32 * cnt n ∧ I + 32 = 32 * (i + 1)) := Lib.hid (by have := HI.out; unfold cnt; omega)
      have hg1 := rget_in B u0 k 65535 wr HV.out (by omega) (by omega)
      have hIb : I ≤ 2000000 := by omega
      rcases getR_cases 65535 k with ⟨x, l1, h1, e1, _, hl1⟩ | ⟨h1, e1⟩
      · rw [show ((65535 : Nat) : Int) = 65535 from rfl, e1] at hg1
        have HG1 := Lib.hid hg1
        have HH1 := Lib.hid h1
        clear hg1 e1 h1
        go_wp2_with fail
        refine HG1.out.mono ?_
        rintro e w1 ⟨v1, rfl, hv1, hb1⟩
        dsimp only at hv1 ⊢
        have HB1 := Lib.hid (grow HB.out hb1)
        have hsz1 := HB1.out.size
        have hg2 := rget_in B v1 l1 1099511627776 w1 hv1 (by omega) (by omega)
        rcases getR_cases 1099511627776 l1 with ⟨y, l2, h2, e2, _, hl2⟩ | ⟨h2, e2⟩
        · rw [show ((1099511627776 : Nat) : Int) = 1099511627776 from rfl, e2] at hg2
          have HG2 := Lib.hid hg2
          have HCn := Lib.hid (HST.out i k l1 l2 x y HC.out hin HH1.out h2)
          clear hg2 e2 h2 hv1 hb1 HG1
          go_wp2_with fail
          refine HG2.out.mono ?_
          rintro e w2 ⟨v2, rfl, hv2, hb2⟩
          dsimp only at hv2 ⊢
          have HB2 := Lib.hid (grow HB1.out hb2)
          have HV2 := Lib.hid hv2
          clear hv2 hb2 HG2
          go_wp2_with fail
          go_roundw
          case rel => exact ⟨i + 1, I + 32, l2, Lib.hid HNI.out.2, HNI.out.1, by go_num, HCn, by omega, HV2, HB2⟩
          case measure => simp [intOf]; omega
        · rw [show ((1099511627776 : Nat) : Int) = 1099511627776 from rfl, e2] at hg2
          have HG2 := Lib.hid hg2
          have HNo := Lib.hid (HN2.out i k l1 x HC.out hin HH1.out h2)
          clear hg2 e2 h2 hv1 hb1 HG1
          go_wp2_with fail
          refine HG2.out.mono ?_
          rintro e w2 ⟨v2, rfl, hv2, hb2⟩
          dsimp only at hv2 ⊢
          have HB2 := Lib.hid (grow HB1.out hb2)
          clear hv2 hb2 HG2
          go_wp2_with fail
          go_ret2
          exact ⟨_, [], false, rfl, BIn.nil_ _ _, HB2.out, by simp, .inr ⟨rfl, HNo.out⟩⟩
      · rw [show ((65535 : Nat) : Int) = 65535 from rfl, e1] at hg1
        have HG1 := Lib.hid hg1
        have HNo := Lib.hid (HN1.out i k HC.out hin h1)
        clear hg1 e1 h1
        go_wp2_with fail
        refine HG1.out.mono ?_
        rintro e w1 ⟨v1, rfl, hv1, hb1⟩
        dsimp only at hv1 ⊢
        have HB1 := Lib.hid (grow HB.out hb1)
        have hsz1 := HB1.out.size
        have hg2 := rget_in B v1 [] 1099511627776 w1 hv1 (by omega) (by omega)
        rw [show ((1099511627776 : Nat) : Int) = 1099511627776 from rfl, getR_none (numL_nil _ _)] at hg2
        have HG2 := Lib.hid hg2
        clear hg2 hv1 hb1 HG1
        go_wp2_with fail
        refine HG2.out.mono ?_
        rintro e w2 ⟨v2, rfl, hv2, hb2⟩
        dsimp only at hv2 ⊢
        have HB2 := Lib.hid (grow HB1.out hb2)
        clear hv2 hb2 HG2
        go_wp2_with fail
        go_ret2
        exact ⟨_, [], false, rfl, BIn.nil_ _ _, HB2.out, by simp, .inr ⟨rfl, HNo.out⟩⟩
    · have t1 : decide ((I : Int) < (n : Int)) = false := by simp; omega
      have ei : i = cnt n := by have := HI.out; unfold cnt at hi ⊢; omega
      have HC2 : Hid (CompR b n (cnt n) k) := by rw [← ei]; exact HC
      clear ei HC
      go_wp2_with fail
      go_ret2
      exact ⟨_, k, true, rfl, HV.out, HB.out, hkl, .inl ⟨rfl, HC2.out⟩⟩
end Go.Proofs.Ytdgjbhejokmeoaa.PW
