/-
  The law of P8.5 walked: it returns true at any row, any bytes, any number. No condition.
-/
import Derived.Test.YtdgjbhejokmeoaaPstAwake
set_option linter.unusedVariables false
namespace Go.Proofs.Ytdgjbhejokmeoaa.PW
open Go.RowKit Go.Proofs.Ytdgjbhejokmeoaa.MM Go.Proofs.Ytdgjbhejokmeoaa.PM Go.Proofs.Ytdgjbhejokmeoaa.VM

theorem body_det2 : ∀ (p q : List Post) (n : Int) (R S : List UInt8), 0 ≤ n → okL n p → okL n q → p.length = q.length → bodyL n p ++ R = bodyL n q ++ S → p = q ∧ R = S
  | [], [], _, _, _, _, _, _, _, h => ⟨rfl, h⟩
  | [], _ :: _, _, _, _, _, _, _, h, _ => by simp at h
  | _ :: _, [], _, _, _, _, _, _, h, _ => by simp at h
  | a :: p, c :: q, n, R, S, hn, hp, hq, hl, h => by
    rw [okL] at hp hq
    rw [bodyL, bodyL, List.append_assoc, List.append_assoc] at h
    obtain ⟨e1, e2⟩ := postAt_det (l := postL n a ++ (bodyL (a.1 + 1) p ++ R)) hn ⟨hp.1, rfl⟩ ⟨hq.1, h⟩
    subst e1
    obtain ⟨e3, e4⟩ := body_det2 p q (a.1 + 1) R S (by have := hp.1.1; omega) hp.2 hq.2 (by simpa using hl) e2
    exact ⟨by rw [e3], e4⟩
/-- No beginning of a row's bytes is a row's. -/
theorem no_part {b : List UInt8} {ps : List Post} (hb : b.length < 4611686018427387904) (hd : Dec b ps) {m : Nat} (hm : m < b.length) : NoRow (b.take m) := by
  intro q hq
  have hbm : (b.take m).length < 4611686018427387904 := by rw [List.length_take]; omega
  have a1 := dec_len hd
  have a2 := dec_len hq
  have e : encL q ++ b.drop m = encL ps ++ [] := by rw [hq.2, hd.2, List.take_append_drop, List.append_nil]
  unfold encL at e
  simp only [List.append_assoc] at e
  obtain ⟨e1, e2⟩ := bytes_det (by omega) (by omega) e
  rw [e1] at e2
  have s1 := fun k => h_small hd k
  have s2 := fun k => h_small hq k
  have e3 := heads_det q ps (fun k => by have := s2 k; omega) (fun k => by have := s1 k; omega) _ _ _ _ e2
  obtain ⟨_, e4⟩ := body_det2 q ps 0 _ _ (Int.le_refl _) ((isL_ok q).1 hq.1) ((isL_ok ps).1 hd.1) e1 e3
  have := congrArg List.length e4
  rw [List.length_drop, List.length_nil] at this
  omega
theorem sumL_body : ∀ (ps : List Post) (n : Int), sumL ps ≤ (bodyL n ps).length
  | [], _ => by simp [sumL]
  | p :: ps, n => by
    have h1 := sumL_body ps (p.1 + 1)
    have h2 := (postL_len n p).1
    rw [sumL, bodyL, List.length_append]
    omega
theorem dec_sum {b : List UInt8} {ps : List Post} (h : Dec b ps) : sumL ps ≤ b.length := Nat.le_trans (sumL_body ps 0) (dec_body h)
theorem encL_len (ps : List Post) (h1 : ps.length ≤ 70) (h2 : sumL ps ≤ 1400) : (encL ps).length ≤ 20000 ∧ 1 ≤ (encL ps).length := by
  have a1 := bytesL_length ps.length
  have a2 := headsR_len ps (cnt ps.length) 0
  have a3 := bodyL_len ps 0
  have a4 : cnt ps.length ≤ 70 := by unfold cnt; omega
  unfold encL
  rw [List.length_append, List.length_append]
  omega

set_option maxRecDepth 100000 in
set_option maxHeartbeats 8000000 in
theorem back_walk (u v : Value) (n2 : Nat) (A0 : List Post) (B0 : List UInt8) (w : World) (hu : PRow w u A0) (hv : BRow w v B0) (hn2 : n2 < 65536) : Calls Try.prog 5 #[u, v, .int .u16 n2] w fun e w' => e = .returned (.bool true) ∧ Below w.heap.size w w' := by
  have HF1 := Lib.hid (few_any u A0 w hu)
  have HF2 := Lib.hid (fun W (h : Below w.heap.size w W) => cut_any v B0 W (hv.below h))
  have hl1 := fewL_len A0
  have hs1 := fewL_sum A0
  have hl2 : (B0.take 600).length ≤ 600 := by rw [List.length_take]; omega
  obtain ⟨a, ha⟩ : ∃ a, fewL A0 = a := ⟨_, rfl⟩
  obtain ⟨b, hb⟩ : ∃ b, B0.take 600 = b := ⟨_, rfl⟩
  rw [ha] at HF1 hl1 hs1
  rw [hb] at HF2 hl2
  obtain ⟨pu, cu, rfl, _⟩ := hu.shape
  obtain ⟨pv, cv, rfl, _⟩ := BIn.shape hv
  clear ha hb hu hv
  go_enter Try.func5, Try.ntmps5
  go_wp2_with fail
  refine HF1.out.mono ?_
  rintro e w1 ⟨x, rfl, hx, b1⟩
  have HF2' := Lib.hid (HF2.out w1 b1)
  have HX1 := Lib.hid hx
  have HB1 := Lib.hid b1
  clear HF1 HF2 hx b1
  go_wp2_with fail
  refine HF2'.out.mono ?_
  rintro e w2 ⟨y, rfl, rfl, hy⟩
  have HY1 := Lib.hid hy
  clear hy HF2'
  have K1 := Lib.hid (enc_any x a w1 HX1.out (by omega) (by omega))
  unfold encR at K1
  cases hok : isL a with
  | false =>
    rw [hok, if_neg (by simp)] at K1
    unfold EncLeft at K1
    dsimp only at K1
    clear hok
    go_wp2_with fail
    refine K1.out.mono ?_
    rintro e WW ⟨v2, rfl, ho2, b2⟩
    have HBW := Lib.hid (grow HB1.out b2)
    have HYW := Lib.hid (HY1.out.below b2)
    clear b2 ho2 K1 HX1 HY1 HB1
    cases hO : decO b with
    | none =>
      have hdR : decR (decO b) = ([], 80) := by rw [hO]; rfl
      have KD := Lib.hid (decode_any y b WW (HYW.out) (by omega))
      rw [hdR] at KD
      unfold DecLeft at KD
      dsimp only at KD
      clear hdR hO
      go_wp2_with fail
      refine KD.out.mono ?_
      rintro e wa ⟨va, rfl, hpa, ba⟩
      have HBa := Lib.hid (grow HBW.out ba)
      obtain ⟨pa, ca, rfl, _⟩ := hpa.shape
      clear hpa ba KD
      go_wp2_with fail
      refine (awake_any wa).mono ?_
      rintro e wc ⟨rfl, bc⟩
      have HBc := Lib.hid (grow HBa.out bc)
      clear bc
      go_wp2_with fail
      go_ret
      exact ⟨rfl, HBc.out⟩
    | some P =>
      have hBd := decO_dec hO
      have hEB : encR P = (b, 0) := by unfold encR; rw [if_pos hBd.1, hBd.2]
      have hPl := dec_len hBd
      have hPs := dec_sum hBd
      have hdR : decR (decO b) = (P, 0) := by rw [hO]; rfl
      have KD := Lib.hid (decode_any y b WW (HYW.out) (by omega))
      rw [hdR] at KD
      unfold DecLeft at KD
      dsimp only at KD
      clear hdR hBd hO
      go_wp2_with fail
      refine KD.out.mono ?_
      rintro e wa ⟨va, rfl, hpa, ba⟩
      have HBa := Lib.hid (grow HBW.out ba)
      have HYa := Lib.hid (HYW.out.below ba)
      have hke := enc_any va P wa hpa (by omega) (by omega)
      rw [hEB] at hke
      unfold EncLeft at hke
      dsimp only at hke
      have KE := Lib.hid hke
      obtain ⟨pa, ca, rfl, _⟩ := hpa.shape
      clear hpa ba KD hke hEB
      go_wp2_with fail
      refine KE.out.mono ?_
      rintro e wb ⟨vb, rfl, hob, bb⟩
      have HBb := Lib.hid (grow HBa.out bb)
      have c1 := BIn.conv (OwnB.brow hob)
      have c2 := BIn.conv (HYa.out.below bb)
      obtain ⟨S1, hS1⟩ : ∃ S : ByteArray, (⟨b.toArray⟩ : ByteArray) = S := ⟨_, rfl⟩
      rw [hS1] at c1 c2
      clear hob bb KE hS1
      go_wp2_with fail
      refine (awake_any wb).mono ?_
      rintro e wc ⟨rfl, bc⟩
      have HBc := Lib.hid (grow HBb.out bc)
      clear bc
      go_wp2_with fail
      go_ret
      exact ⟨rfl, HBc.out⟩
  | true =>
    rw [hok, if_pos rfl] at K1
    unfold EncLeft at K1
    dsimp only at K1
    have hdec : Dec (encL a) a := ⟨hok, rfl⟩
    obtain ⟨hEl, hE1⟩ := encL_len a hl1 hs1
    have hpart := fun m (hm : m < (encL a).length) => no_part (by omega) hdec hm
    have K2 := Lib.hid (fun v W (h : BRow W v (encL a)) => by
      have := decode_any v (encL a) W h (by omega)
      rw [decO_some (by omega) hdec] at this
      exact this)
    obtain ⟨X, hX⟩ : ∃ X, encL a = X := ⟨_, rfl⟩
    rw [hX] at K1 hEl hE1
    simp only [hX] at hpart K2
    have K3 := Lib.hid (fun v W m (hm : m < X.length) (h : BRow W v (X.take m)) => by
      have := decode_any v (X.take m) W h (by rw [List.length_take]; omega)
      rw [decO_none (hpart m hm)] at this
      exact this)
    unfold DecLeft decR at K2 K3
    dsimp only at K2 K3
    clear hok hdec hpart hX
    go_wp2_with fail
    refine K1.out.mono ?_
    rintro e w2 ⟨v2, rfl, ho2, b2⟩
    have HB2 := Lib.hid (grow HB1.out b2)
    have HY2 := Lib.hid (HY1.out.below b2)
    have HX2 := Lib.hid (HX1.out.below b2)
    have HR2 := Lib.hid (OwnB.brow ho2)
    clear b2 ho2 K1 HX1 HY1 HB1
    go_wp2_with fail
    refine (K2.out _ _ HR2.out).mono ?_
    rintro e w3 ⟨v3, rfl, hp3, b3⟩
    have HB3 := Lib.hid (grow HB2.out b3)
    have HY3 := Lib.hid (HY2.out.below b3)
    have HR3 := Lib.hid (HR2.out.below b3)
    have hrs := rsame_any v3 x a a w3 hp3 (HX2.out.below b3)
    rw [decide_eq_true rfl] at hrs
    have K4 := Lib.hid hrs
    obtain ⟨p2, c2, rfl, hc1, hc2⟩ := BIn.shape HR3.out
    unfold maxLen at hc2
    obtain ⟨nX, hnX⟩ : ∃ n, X.length = n := ⟨_, rfl⟩
    have HNX := Lib.hid hnX
    rw [hnX] at HR3 hc1 hEl hE1 ⊢
    have t0 : ((nX : Int) == 0) = false := by rw [beq_eq_false_iff_ne]; omega
    clear hp3 b3 K2 HB2 HY2 HR2 HX2 hrs hnX
    go_wp2_with fail
    refine K4.out.mono ?_
    rintro e w4 ⟨rfl, b4⟩
    have HB4 := Lib.hid (grow HB3.out b4)
    have HY4 := Lib.hid (HY3.out.below b4)
    have HR4 := Lib.hid (HR3.out.below b4)
    obtain ⟨m, hm⟩ : ∃ m, n2 % nX = m := ⟨_, rfl⟩
    have hmlt : m < nX := by rw [← hm]; exact Nat.mod_lt _ (by omega)
    have e1 : (n2 : Int) % (nX : Int) = (m : Int) := by rw [← hm]; rfl
    have e2 : Int.tmod (n2 : Int) (nX : Int) = (m : Int) := by rw [Int.tmod_eq_emod_of_nonneg (by omega)]; exact e1
    have i1 : (m : Int) ≤ (c2 : Int) := by omega
    have HT := Lib.hid (BIn.take HR4.out m (by omega))
    have K5 := Lib.hid (K3.out _ w4 m (by rw [HNX.out]; exact hmlt) HT.out)
    clear b4 K4 K3 HB3 HY3 HR3 hm
    go_wp2_with fail
    refine K5.out.mono ?_
    rintro e WW ⟨v5, rfl, hp5, b5⟩
    have HBW := Lib.hid (grow HB4.out b5)
    have HYW := Lib.hid (HY4.out.below b5)
    clear hp5 b5 K5 HB4 HY4 HR4 HT
    cases hO : decO b with
    | none =>
      have hdR : decR (decO b) = ([], 80) := by rw [hO]; rfl
      have KD := Lib.hid (decode_any y b WW (HYW.out) (by omega))
      rw [hdR] at KD
      unfold DecLeft at KD
      dsimp only at KD
      clear hdR hO
      go_wp2_with fail
      refine KD.out.mono ?_
      rintro e wa ⟨va, rfl, hpa, ba⟩
      have HBa := Lib.hid (grow HBW.out ba)
      obtain ⟨pa, ca, rfl, _⟩ := hpa.shape
      clear hpa ba KD
      go_wp2_with fail
      refine (awake_any wa).mono ?_
      rintro e wc ⟨rfl, bc⟩
      have HBc := Lib.hid (grow HBa.out bc)
      clear bc
      go_wp2_with fail
      go_ret
      exact ⟨rfl, HBc.out⟩
    | some P =>
      have hBd := decO_dec hO
      have hEB : encR P = (b, 0) := by unfold encR; rw [if_pos hBd.1, hBd.2]
      have hPl := dec_len hBd
      have hPs := dec_sum hBd
      have hdR : decR (decO b) = (P, 0) := by rw [hO]; rfl
      have KD := Lib.hid (decode_any y b WW (HYW.out) (by omega))
      rw [hdR] at KD
      unfold DecLeft at KD
      dsimp only at KD
      clear hdR hBd hO
      go_wp2_with fail
      refine KD.out.mono ?_
      rintro e wa ⟨va, rfl, hpa, ba⟩
      have HBa := Lib.hid (grow HBW.out ba)
      have HYa := Lib.hid (HYW.out.below ba)
      have hke := enc_any va P wa hpa (by omega) (by omega)
      rw [hEB] at hke
      unfold EncLeft at hke
      dsimp only at hke
      have KE := Lib.hid hke
      obtain ⟨pa, ca, rfl, _⟩ := hpa.shape
      clear hpa ba KD hke hEB
      go_wp2_with fail
      refine KE.out.mono ?_
      rintro e wb ⟨vb, rfl, hob, bb⟩
      have HBb := Lib.hid (grow HBa.out bb)
      have c1 := BIn.conv (OwnB.brow hob)
      have c2 := BIn.conv (HYa.out.below bb)
      obtain ⟨S1, hS1⟩ : ∃ S : ByteArray, (⟨b.toArray⟩ : ByteArray) = S := ⟨_, rfl⟩
      rw [hS1] at c1 c2
      clear hob bb KE hS1
      go_wp2_with fail
      refine (awake_any wb).mono ?_
      rintro e wc ⟨rfl, bc⟩
      have HBc := Lib.hid (grow HBb.out bc)
      clear bc
      go_wp2_with fail
      go_ret
      exact ⟨rfl, HBc.out⟩
end Go.Proofs.Ytdgjbhejokmeoaa.PW
