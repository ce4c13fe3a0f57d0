/-
  EventApart, walked. No condition.
-/
import Derived.Test.YtgacfihidpijeaaEvtAwake
import Derived.Test.YtgacfihidpijeaaEvtLight
import Derived.Test.YtgacfihidpijeaaCodecMore
import Derived.Test.YtgacfihidpijeaaTokRef
import Derived.Test.YtgacfihidpijeaaFrameEv
set_option linter.unusedVariables false
namespace Go.Proofs.Ytgacfihidpijeaa.EV
open Go Go.RowKit Go.Proofs.Ytgacfihidpijeaa.MM Go.Proofs.Ytgacfihidpijeaa.EM
open Go.Proofs.Ytgacfihidpijeaa.TK (wordsB wordsB_count numT numT_len rtokens_any KIn)

theorem int_src {S S' : Nat → Prop} {w : World} {v : Value} {zs : List Int} (h : ROn cInt S w v zs) : SrcX cInt S' w v zs := by
  obtain ⟨p, cap, raw, hv, h1, h3, hm, hc⟩ := h.src
  exact ⟨p, cap, raw, hv, h1, h3, ⟨hm.1, fun i hi hi' => hm.2 i hi hi'⟩, hc⟩
theorem places_next {T : List Trm} {i : Nat} (hi : i < T.length) : placesT (T.take (i + 1)) = placesT (T.take i) ++ T[i].2 := by
  unfold placesT
  rw [List.take_succ_eq_append_getElem hi, List.flatMap_append]
  simp
theorem words_le (fs : List Fld) : ∀ k, k ≤ fs.length → (wordsN (fs.take k) : Int) ≤ baseF (fs.take k)
  | 0, _ => by simp [wordsN, baseF]
  | k + 1, h => by
    have hk : k < fs.length := by omega
    have ih := words_le fs k (by omega)
    rw [wordsN_next hk, baseF_next hk]
    push_cast
    omega
theorem count_next {l : List Int} {j : Nat} (hj : j < l.length) (v : Int) : (l.take (j + 1)).count v = (l.take j).count v + if l[j] = v then 1 else 0 := by
  rw [List.take_succ_eq_append_getElem hj, List.count_append, List.count_singleton]
  congr 1
  by_cases h : l[j] = v <;> simp [h]

set_option maxRecDepth 100000 in
set_option maxHeartbeats 8000000 in
theorem apart_walk (z : Int) (v : Value) (fs : List Fld) (w : World) (hr : RAny fldC w v fs) : Calls Try.prog 9 #[.agg #[.int .i64 z, v]] w fun e w' => e = .returned (.bool true) ∧ Below w.heap.size w w' := by
  obtain ⟨p, cap, rfl, hlc, hcm, _⟩ := hr.shape
  unfold maxLen at hcm
  have hbx := box_below w z (.slice p fs.length cap)
  have HL := Lib.hid (light_any z _ fs _ (hr.below hbx))
  have HR := Lib.hid hr
  have HBX := Lib.hid hbx
  clear hr hbx
  go_enter Try.func9, Try.ntmps9
  go_wp2_with fail
  refine HL.out.mono ?_
  rintro e w1 ⟨b, rfl, hb1⟩
  obtain ⟨c0, c1, hbw⟩ := box_in hb1
  have HB1 := Lib.hid hb1
  have HBW1 := Lib.hid hbw
  clear hb1
  cases b with
  | false =>
    clear hbw HL
    go_wp2_with fail
    refine (awake_any _).mono ?_
    rintro e w2 ⟨rfl, hb2⟩
    have HB2 := Lib.hid (grow HBW1.out hb2)
    clear hb2
    go_wp2_with fail
    go_ret
    exact ⟨rfl, HB2.out⟩
  | true =>
    have HC := Lib.hid (rcheck_any z _ fs _ (HR.out.below hbw))
    obtain ⟨c, hc⟩ : ∃ c, checkE (z, fs) = c := ⟨_, rfl⟩
    rw [hc] at HC
    clear hbw HL
    go_wp2_with fail
    refine HC.out.mono ?_
    rintro e w2 ⟨rfl, hb2⟩
    have HBW2 := Lib.hid (grow HBW1.out hb2)
    have HB2 := Lib.hid (HB1.out.trans (hb2.mono HB1.out.size))
    clear hb2 c0 c1
    obtain ⟨c0, c1, _⟩ := box_in HB2.out
    by_cases h0 : c = 0
    · subst h0
      obtain ⟨h16, hall⟩ := checkE_ok.1 hc
      have h16 : fs.length ≤ 16 := h16
      have hx : ∀ f ∈ fs, f.2.length ≤ 4096 := fun f hf => (hall f hf).2
      have HT := Lib.hid (terms_any z _ fs _ (HR.out.below HBW2.out))
      rw [show termsE (z, fs) = termsF fs by unfold termsE; rw [if_neg (by simp [hc])]] at HT
      have hpl := places_len fs
      have hwl := words_le fs fs.length (Nat.le_refl _)
      have hbl := (base_le hx fs.length (Nat.le_refl _)).2
      rw [List.take_length] at hwl hbl
      have hat : (placesT (termsF fs)).length ≤ 100000 := by omega
      have HONE : Hid (∀ i k (hi : i < fs.length), k < (wordsB fs[i].2).length → (placesT (termsF fs)).count (baseF (fs.take i) + (k : Int)) = 1) := Lib.hid fun i k hi hk => places_once hi hk
      have HX := Lib.hid hx
      have HPL := Lib.hid hpl
      generalize termsF fs = T at *
      clear hall hx hpl hwl hbl hc HC HB1 HBW1
      go_wp2_with fail
      refine HT.out.mono ?_
      rintro e w3 ⟨u, rfl, hu, hb3⟩
      obtain ⟨pu, cu, rfl, hcl, hcu, _⟩ := hu.shape
      unfold maxLen at hcu
      have HBW3 := Lib.hid (grow HBW2.out hb3)
      have HB3 := Lib.hid (HB2.out.trans (hb3.mono HB2.out.size))
      have HU := Lib.hid hu.bel
      have HO0 := Lib.hid (OwnX.nil_ (C := cInt) 3 w3.heap.size NoS w3)
      have HP0 : Hid (placesT (T.take 0) = []) := Lib.hid (by simp [placesT])
      clear hu hb3 HT c0 c1 HB2 HBW2
      go_wp2_with fail
      go_loopw [4, 5] (fun v iv wr => ∃ (i : Nat) (q : Option Addr) (m c : Nat), i ≤ T.length ∧ v = .slice q m c ∧ iv = .int .i64 i ∧ Hid (m = (placesT (T.take i)).length) ∧ Hid (OwnX cInt 3 w3.heap.size NoS wr (.slice q m c) (placesT (T.take i))) ∧ Hid (Below w3.heap.size w3 wr)) (fun _ iv _ => T.length - (intOf iv).toNat)
      case atStart => exact ⟨0, none, 0, 0, by omega, rfl, rfl, Lib.hid (by rw [HP0.out]; rfl), Lib.hid (by rw [HP0.out]; exact HO0.out), Lib.hid (Below.refl _ _)⟩
      case round =>
        obtain ⟨i, q, m, c, hi, rfl, rfl, HM, HO, HB⟩ := hrel
        clear HO0 HP0
        have hsz := HB.out.size
        by_cases hlt : i < T.length
        · have q1 : decide ((i : Int) < (T.length : Int)) = true := by rw [decide_eq_true_eq]; omega
          have q2 : decide (i < T.length) = true := by rw [decide_eq_true_eq]; omega
          obtain ⟨b, off, vi, rfl, _, _, d0, d1, hvi⟩ := trm_at (HU.out.below HB.out) hlt
          obtain ⟨pi, ci, rfl, _⟩ := hvi.shape
          have hnx := places_next hlt
          have hall : (placesT (T.take (i + 1))).length ≤ 100000 := by
            have : (placesT (T.take (i + 1))).length ≤ (placesT T).length := by
              conv => rhs; rw [← List.take_append_drop (i + 1) T]
              unfold placesT
              rw [List.flatMap_append, List.length_append]
              omega
            omega
          rw [hnx, List.length_append] at hall
          have HNX := Lib.hid hnx
          have HV := Lib.hid (int_src (S' := NoS) hvi)
          have HLT := Lib.hid hlt
          generalize T[i].2 = zs at *
          generalize placesT (T.take i) = A at *
          clear hnx hlt hvi d0
          go_wp2_with (at_builtin; go_loud (refine wpList_append_x intE rfl _ _ rfl w3.heap.size _ A rfl HO.out (fun b _ hb => hb.elim) _ zs rfl HV.out (by unfold maxLen; omega) (by omega) hsz ?_; intro v' w4 ho4 hb4 _; obtain ⟨q4, c4, rfl, _⟩ := ho4.any.shape; have HO4 := Lib.hid ho4; have HB4 := Lib.hid (HB.out.trans hb4); clear ho4 hb4))
          have hlt := HLT.out
          go_roundw
          case rel => exact ⟨i + 1, q4, _, c4, by omega, rfl, by go_num, Lib.hid (by rw [HNX.out, List.length_append]), Lib.hid (by rw [HNX.out]; have := HO4.out; rw [List.length_append] at this; exact this), HB4⟩
          case measure => simp [intOf]; omega
        · obtain rfl : i = T.length := by omega
          have q1 : decide ((T.length : Int) < (T.length : Int)) = false := by simp
          have q2 : decide (T.length < T.length) = false := by simp
          have hm := HM.out
          have ho := HO.out
          rw [List.take_length] at hm ho
          subst hm
          have HA := Lib.hid ho.any
          obtain ⟨A, hA⟩ : ∃ A, placesT T = A := ⟨_, rfl⟩
          rw [hA] at HA hat HPL HONE
          rw [hA]
          have HBW := Lib.hid (HBW3.out.trans (HB.out.mono HBW3.out.size))
          have HBB := Lib.hid (HB3.out.trans (HB.out.mono HB3.out.size))
          have HZ0 : Hid ((wordsN (fs.take 0) : Int) = 0 ∧ baseF (fs.take 0) = 0) := Lib.hid (by simp [wordsN, baseF])
          clear hlt ho hA HM HO HB HBW3 HB3 HU hsz
          have HAW := Lib.hid (show ∀ W, Calls Try.prog 18 #[] W fun e w' => e = .returned (.bool true) ∧ Below W.heap.size W w' from awake_any)
          go_wp2_with fail
          go_loopw [6, 7, 8] (fun nv ev iv wr => ∃ (i N : Nat) (E : Int), i ≤ fs.length ∧ nv = .int .i64 N ∧ ev = .int .i64 E ∧ iv = .int .i64 i ∧ N ≤ 100000 ∧ 0 ≤ E ∧ E ≤ 100000 ∧ Hid ((N : Int) = wordsN (fs.take i)) ∧ Hid (E = baseF (fs.take i)) ∧ Hid (RAny cInt wr (.slice q A.length c) A) ∧ Hid (Below (evBox w z (.slice p fs.length cap)).heap.size (evBox w z (.slice p fs.length cap)) wr)) (fun _ _ iv _ => fs.length - (intOf iv).toNat)
          case atStart => exact ⟨0, 0, 0, by omega, rfl, rfl, rfl, by omega, by omega, by omega, Lib.hid (by simp [wordsN]), Lib.hid HZ0.out.2.symm, HA, HBB⟩
          case round =>
            obtain ⟨i, N, E, hi, rfl, rfl, rfl, hN, hE0, hE1, HN, HE, HA1, HB1⟩ := hrel
            clear HA HBB HZ0
            obtain ⟨c0, c1, hbw⟩ := box_in HB1.out
            by_cases hlt : i < fs.length
            · have q1 : decide ((i : Int) < (fs.length : Int)) = true := by rw [decide_eq_true_eq]; omega
              have q2 : decide (i < fs.length) = true := by rw [decide_eq_true_eq]; omega
              obtain ⟨b, off, rfl, _, _, d0, d1⟩ := fld_at (HR.out.below hbw) hlt
              have hone := HONE.out i
              have hxi := HX.out fs[i] (List.getElem_mem hlt)
              have hwn := wordsN_next hlt
              have hbn := baseF_next hlt
              have hwle := words_le fs (i + 1) (by omega)
              have hble := (base_le HX.out (i + 1) (by omega)).2
              have hwc := wordsB_count fs[i].2
              have hone2 : ∀ k, k < (wordsB fs[i].2).length → A.count (E + (k : Int)) = 1 := fun k hk => by rw [HE.out]; exact hone k hlt hk
              have htok := fun W => rtokens_any ⟨fs[i].2.toArray⟩ W (by rw [str_sz]; omega)
              simp only [str_list] at htok
              generalize fs[i].2 = tx at *
              generalize wordsB tx = ws at *
              have hN2 : ((N + ws.length : Nat) : Int) = wordsN (fs.take (i + 1)) := by rw [hwn]; have := HN.out; push_cast; omega
              have hE2 : E + (ws.length : Int) + 64 = baseF (fs.take (i + 1)) := by rw [hbn, HE.out]
              have hN3 : N + ws.length ≤ 100000 := by omega
              have hE3 : E + (ws.length : Int) + 64 ≤ 100000 := by omega
              have HTK := Lib.hid (htok wr)
              have HN2 := Lib.hid hN2
              have HE2 := Lib.hid hE2
              have HON := Lib.hid hone2
              have HLT := Lib.hid hlt
              clear hone hwn hbn hwle hble htok hone2 hlt d0 hN2 hE2 HN HE hbw
              go_wp2_with fail
              refine HTK.out.mono ?_
              rintro e w5 ⟨vt, rfl, hkr, hb5⟩
              obtain ⟨pt, ct, rfl, hct, hcm2⟩ := KIn.shape hkr
              rw [numT_len] at hct ⊢
              unfold maxLen at hcm2
              have HA5 := Lib.hid (HA1.out.below hb5)
              have HB5 := Lib.hid (HB1.out.trans (hb5.mono HB1.out.size))
              clear hkr hb5 HTK HA1 HB1 c0 c1 d1
              go_wp2_with fail
              go_loopw [10] (fun kv wk => ∃ k : Nat, k ≤ ws.length ∧ kv = .int .i64 k ∧ Hid (RAny cInt wk (.slice q A.length c) A) ∧ Hid (Below (evBox w z (.slice (some ⟨b, off, none⟩) fs.length cap)).heap.size (evBox w z (.slice (some ⟨b, off, none⟩) fs.length cap)) wk)) (fun kv _ => ws.length - (intOf kv).toNat)
              case atStart => exact ⟨0, by omega, rfl, HA5, HB5⟩
              case round =>
                rename_i wk _
                obtain ⟨k, hk, rfl, HA6, HB6⟩ := hrel
                clear HA5 HB5
                by_cases hlk : k < ws.length
                · have r1 : decide ((k : Int) < (ws.length : Int)) = true := by rw [decide_eq_true_eq]; omega
                  have r2 : decide (k < ws.length) = true := by rw [decide_eq_true_eq]; omega
                  have HLK := Lib.hid hlk
                  obtain ⟨V, hV⟩ : ∃ V, E + (k : Int) = V := ⟨_, rfl⟩
                  have hc1 := HON.out k hlk
                  have HC1 := Lib.hid hc1
                  have HC0 : Hid ((A.take 0).count (E + (k : Int)) = 0) := Lib.hid (by simp)
                  clear hlk hV hc1 V
                  go_wp2_with fail
                  go_loopw [11, 12] (fun fv jv wj => ∃ (j fo : Nat), j ≤ A.length ∧ fo ≤ j ∧ fv = .int .i64 fo ∧ jv = .int .i64 j ∧ Hid ((A.take j).count (E + (k : Int)) = fo) ∧ Hid (RAny cInt wj (.slice q A.length c) A) ∧ Hid (Below (evBox w z (.slice (some ⟨b, off, none⟩) fs.length cap)).heap.size (evBox w z (.slice (some ⟨b, off, none⟩) fs.length cap)) wj)) (fun _ jv _ => A.length - (intOf jv).toNat)
                  case atStart => exact ⟨0, 0, by omega, by omega, rfl, rfl, HC0, HA6, HB6⟩
                  case round =>
                    obtain ⟨j, fo, hj, hfo, rfl, rfl, HCJ, HA7, HB7⟩ := hrel
                    clear HC0 HA6 HB6
                    by_cases hlj : j < A.length
                    · have s1 : decide ((j : Int) < (A.length : Int)) = true := by rw [decide_eq_true_eq]; omega
                      have s2 : decide (j < A.length) = true := by rw [decide_eq_true_eq]; omega
                      obtain ⟨b8, o8, rfl, _, _, d8⟩ := int_at HA7.out hlj
                      have hcn := count_next hlj (E + (k : Int))
                      rw [HCJ.out] at hcn
                      have HLJ := Lib.hid hlj
                      generalize A[j] = X at *
                      by_cases hX : X = E + (k : Int)
                      · have s3 : (X == E + (k : Int)) = true := by rw [beq_iff_eq]; exact hX
                        rw [if_pos hX] at hcn
                        have HCN := Lib.hid hcn
                        clear hcn hX hlj HCJ
                        go_wp2_with fail
                        have hlj := HLJ.out
                        go_roundw
                        case rel => exact ⟨j + 1, fo + 1, by omega, by omega, by go_num, by go_num, HCN, HA7, HB7⟩
                        case measure => simp [intOf]; omega
                      · have s3 : (X == E + (k : Int)) = false := by rw [beq_eq_false_iff_ne]; exact hX
                        rw [if_neg hX] at hcn
                        have HCN := Lib.hid hcn
                        clear hcn hX hlj HCJ
                        go_wp2_with fail
                        have hlj := HLJ.out
                        go_roundw
                        case rel => exact ⟨j + 1, fo, by omega, by omega, rfl, by go_num, HCN, HA7, HB7⟩
                        case measure => simp [intOf]; omega
                    · obtain rfl : j = A.length := by omega
                      have s1 : decide ((A.length : Int) < (A.length : Int)) = false := by simp
                      have s2 : decide (A.length < A.length) = false := by simp
                      have hf := HCJ.out
                      rw [List.take_length, HC1.out] at hf
                      subst hf
                      clear hlj HCJ
                      go_wp2_with fail
                      have hlk := HLK.out
                      go_roundw
                      case rel => exact ⟨k + 1, by omega, by go_num, HA7, HB7⟩
                      case measure => simp [intOf]; omega
                · obtain rfl : k = ws.length := by omega
                  have r1 : decide ((ws.length : Int) < (ws.length : Int)) = false := by simp
                  have r2 : decide (ws.length < ws.length) = false := by simp
                  clear hlk
                  go_wp2_with fail
                  have hlt := HLT.out
                  go_roundw
                  case rel => exact ⟨i + 1, N + ws.length, E + (ws.length : Int) + 64, by omega, by go_num, rfl, by go_num, by omega, by omega, by omega, HN2, HE2, HA6, HB6⟩
                  case measure => simp [intOf]; omega
            · obtain rfl : i = fs.length := by omega
              have q1 : decide ((fs.length : Int) < (fs.length : Int)) = false := by simp
              have q2 : decide (fs.length < fs.length) = false := by simp
              have hn := HN.out
              rw [List.take_length] at hn
              have hNA : N = A.length := by rw [HPL.out]; omega
              subst hNA
              have q3 : ((A.length : Int) == (A.length : Int)) = true := by simp
              have HBW9 := Lib.hid hbw
              clear hn hlt hbw HN HE
              go_wp2_with fail
              refine (HAW.out _).mono ?_
              rintro e w9 ⟨rfl, hb9⟩
              have HB9 := Lib.hid (grow HBW9.out hb9)
              clear hb9
              go_wp2_with fail
              go_ret
              exact ⟨rfl, HB9.out⟩
    · have q1 : (c != 0) = true := by simp [h0]
      clear h0 hc HC c0 c1
      go_wp2_with fail
      refine (awake_any _).mono ?_
      rintro e w3 ⟨rfl, hb3⟩
      have HB3 := Lib.hid (grow HBW2.out hb3)
      clear hb3
      go_wp2_with fail
      go_ret
      exact ⟨rfl, HB3.out⟩
theorem apart_call (cs0 : Array Value) (e0 : Ev) (W : World) (h0 : evC.on (fun _ => True) W cs0.toList e0) : Calls Try.prog 9 #[.agg cs0] W fun e W' => e = .returned (.bool true) ∧ Below W.heap.size W W' := by
  obtain ⟨u, rfl, hu⟩ := ev_cells h0
  exact apart_walk e0.1 u e0.2 W hu
end Go.Proofs.Ytgacfihidpijeaa.EV
