/-
  The docs at places: the reference's Some. Condition: fewer than 10^9 places. Which rows of docs may be: the code's Check. No condition.
-/
import Derived.Test.YthgfaadlnffpcaaZA28
import Derived.Test.YthgfaadlnffpcaaZA12
set_option linter.unusedVariables false
namespace Go.Proofs.Ythgfaadlnffpcaa.ST
open Go Go.RowKit Go.Proofs.Ythgfaadlnffpcaa.MM Go.Proofs.Ythgfaadlnffpcaa.EM Go.Proofs.Ythgfaadlnffpcaa.SM
open Go.Proofs.Ythgfaadlnffpcaa.EV (docC evC fldC doc_at doc_on docE BoolLeft IntLeft)

/-- The docs at places, or the first error. -/
def someS (l : List Doc) : List Int → List Doc → List Doc × Int
  | [], acc => (acc, 0)
  | z :: r, acc => if (atS l z).2 = 0 then someS l r (acc ++ [(atS l z).1]) else ([], (atS l z).2)
theorem someS_next (l : List Doc) (zs : List Int) {i : Nat} (hi : i < zs.length) (acc : List Doc) : someS l (zs.drop i) acc = if (atS l zs[i]).2 = 0 then someS l (zs.drop (i + 1)) (acc ++ [(atS l zs[i]).1]) else ([], (atS l zs[i]).2) := by
  rw [List.drop_eq_getElem_cons hi, someS]
/-- Docs that were handed out; their fields lie below block B. -/
def DocsOut (B : Nat) (s : List Doc × Int) (w : World) (e : Ending) (w' : World) : Prop :=
  ∃ u, e = .returned (.tuple #[u, .int .i64 s.2]) ∧ OwnX docC 45 w.heap.size (fun b => b < B) w' u s.1 ∧ Below w.heap.size w w'

set_option maxRecDepth 100000 in
set_option maxHeartbeats 4000000 in
theorem rsome_any (B : Nat) (v : Value) (l : List Doc) (pv : Value) (zs : List Int) (w : World) (hv : RBel docC B w v l) (hB : B ≤ w.heap.size) (hz : IRow w pv zs) (hn : zs.length ≤ 1000000000) : Calls Try.prog 26 #[v, pv] w (DocsOut B (someS l zs []) w) := by
  obtain ⟨pp, pc, rfl, hlp, hcp⟩ := hz.shape
  unfold maxLen at hcp
  obtain ⟨RES, hRES⟩ : ∃ r, someS l zs [] = r := ⟨_, rfl⟩
  have H0 : Hid (someS l (zs.drop 0) [] = RES) := Lib.hid hRES
  rw [hRES]
  have HZ := Lib.hid hz
  have HAT := Lib.hid (fun i W (h : Below w.heap.size w W) => rat_any B v l i W (hv.below (h.mono hB)) (Nat.le_trans hB h.size))
  have HO0 := Lib.hid (OwnX.nil_ (C := docC) 45 w.heap.size (fun b => b < B) w)
  have HB0 := Lib.hid (Below.refl w.heap.size w)
  obtain ⟨pl, cl, rfl, _⟩ := hv.shape
  clear hz hRES hv
  go_enter Try.func26, Try.ntmps26
  go_wp2_with fail
  go_loopw [6, 7] (fun lv iv wr => ∃ (i : Nat) (acc : List Doc), i ≤ zs.length ∧ iv = .int .i64 i ∧ acc.length = i ∧ Hid (someS l (zs.drop i) acc = RES) ∧ Hid (OwnX docC 45 w.heap.size (fun b => b < B) wr lv acc) ∧ Hid (Below w.heap.size w wr)) (fun _ iv _ => zs.length - (intOf iv).toNat)
  case atStart => exact ⟨0, [], by omega, rfl, rfl, H0, HO0, HB0⟩
  case round =>
    obtain ⟨i, acc, hi, rfl, hal, HI, HO, HB⟩ := hrel
    clear H0 HO0 HB0
    have hsw : w.heap.size ≤ wr.heap.size := HB.out.size
    by_cases hlt : i < zs.length
    · have q1 : decide ((i : Int) < (zs.length : Int)) = true := by rw [decide_eq_true_eq]; omega
      have q2 : decide (i < zs.length) = true := decide_eq_true hlt
      have q3 : (i : Int) < (zs.length : Int) := by omega
      obtain ⟨b, off, hpo, hbl, hc⟩ := IRow.at_ (IRow.below HZ.out HB.out) hlt
      subst hpo
      rw [show zs.getD i 0 = zs[i] by simp [List.getD, hlt]] at hc
      have hnx := HI.out
      rw [someS_next l zs hlt] at hnx
      have HA := Lib.hid (HAT.out zs[i] wr HB.out)
      generalize zs[i] = z at *
      obtain ⟨⟨⟨sq, ⟨tm, fs⟩⟩, er⟩, hat⟩ : ∃ d, atS l z = d := ⟨_, rfl⟩
      rw [hat] at hnx HA
      dsimp only at hnx
      have HN := Lib.hid hnx
      clear hnx hat HI
      go_wp2_with fail
      refine HA.out.mono ?_
      rintro e w2 ⟨ue, rfl, hue, hb2⟩
      dsimp only at hue ⊢
      obtain ⟨pe, ce, rfl, _⟩ := hue.shape
      have hsb := hb2.size
      obtain ⟨w3, hw3⟩ : ∃ w3, w2.alloc (.cells #[.int .i64 sq, .int .i64 tm, .slice pe fs.length ce] 45) = w3 := ⟨_, rfl⟩
      obtain ⟨g2, hg2⟩ : ∃ g2, w2.heap.size = g2 := ⟨_, rfl⟩
      have hba : Below w2.heap.size w2 w3 := by rw [← hw3]; exact (Below.refl _ _).alloc (Nat.le_refl _) _
      have x3 : Three w3 g2 45 (.int .i64 sq) (.int .i64 tm) (.slice pe fs.length ce) := by rw [← hw3, ← hg2]; exact three_new w2 45 _ _ _
      have hs3 : w3.heap.size = g2 + 1 := by rw [← hw3, ← hg2]; simp
      have h03 : Below wr.heap.size wr w3 := hb2.trans (hba.mono hb2.size)
      have HB3 := Lib.hid (HB.out.trans (h03.mono hsw))
      have HO3 := Lib.hid (HO.out.keep (kep_below (fun _ => True) h03) (fun _ _ _ => trivial) (fun _ _ => trivial))
      have HE3 := Lib.hid (ROn.keep hue (kep_below _ hba) fun _ _ h => h)
      have m0 := x3.c0
      have m1 := x3.c1
      have m2 := x3.c2
      rw [← hw3] at m0 m1 m2
      have HW3 := Lib.hid hw3
      clear hb2 hue hba h03 hw3 HO HB HA x3
      by_cases h0 : er = 0
      · subst h0
        have hn2 := HN.out
        rw [if_pos rfl] at hn2
        have HN2 := Lib.hid hn2
        have HON := Lib.hid (show docC.on (fun b => b < B) w3 [.int .i64 sq, .int .i64 tm, .slice pe fs.length ce] (sq, (tm, fs)) from doc_on.2 ⟨_, rfl, HE3.out⟩)
        have HS7 := Lib.hid (src_lit (C := docC) (S := fun b => b < B) (w := w3) (vs := [.int .i64 sq, .int .i64 tm, .slice pe fs.length ce]) (d := (sq, (tm, fs))) 45 HON.out)
        have HO7 := Lib.hid (HO3.out.alloc (.cells #[.int .i64 sq, .int .i64 tm, .slice pe fs.length ce] 45))
        have hka : Kep (fun _ => True) w3 (w3.alloc (.cells #[.int .i64 sq, .int .i64 tm, .slice pe fs.length ce] 45)) := kep_alloc _ _ _
        have HB7 := Lib.hid (HB3.out.trans (hka.below (B := w.heap.size) HB3.out.size (fun _ _ => trivial)))
        have hl9 : (acc ++ [(sq, ((tm, fs) : Ev))]).length = i + 1 := by rw [List.length_append, hal]; rfl
        rw [hs3] at HS7
        rw [← HW3.out] at HS7 HO7 HB7
        clear hn2 HN hka HB3 HO3 HE3 HON
        go_wp2_with (at_builtin; go_loud (refine wpList_append_x docE rfl _ _ rfl w.heap.size u6 acc rfl HO7.out (fun b _ hb => .inl (Nat.lt_of_lt_of_le hb hB)) _ [(sq, (tm, fs))] rfl HS7.out (by unfold maxLen; simp; omega) (by simp; omega) (by simp; omega) ?_; intro v8 w8 ho8 hb8 hk8; obtain ⟨p8, c8, rfl, _⟩ := ho8.any.shape; have HO8 := Lib.hid ho8; have HB8 := Lib.hid (HB7.out.trans hb8); clear ho8 hb8 hk8 HO7 HS7 HB7))
        rw [hl9] at HO8
        go_roundw
        case rel => exact ⟨i + 1, acc ++ [(sq, (tm, fs))], by omega, by go_num, hl9, HN2, HO8, HB8⟩
        case measure => simp [intOf]; omega
      · have t8 : (er != 0) = true := by rw [bne_iff_ne]; exact h0
        have hn2 := HN.out
        rw [if_neg h0] at hn2
        subst hn2
        rw [← HW3.out] at HB3
        clear HN HO3 HE3
        go_wp2_with fail
        go_ret2
        exact ⟨_, rfl, OwnX.nil_ _ _ _ _, HB3.out⟩
    · obtain rfl : i = zs.length := by omega
      have q1 : decide ((zs.length : Int) < (zs.length : Int)) = false := by simp
      have q2 : decide (zs.length < zs.length) = false := by simp
      have hn2 := HI.out
      rw [List.drop_length, someS] at hn2
      subst hn2
      clear HI hlt
      go_wp2_with fail
      go_ret2
      exact ⟨_, rfl, HO.out, HB.out⟩
end Go.Proofs.Ythgfaadlnffpcaa.ST
set_option linter.unusedVariables false
namespace Go.Proofs.Ythgfaadlnffpcaa.ST
open Go Go.RowKit Go.Proofs.Ythgfaadlnffpcaa.MM Go.Proofs.Ythgfaadlnffpcaa.EM Go.Proofs.Ythgfaadlnffpcaa.SM
open Go.Proofs.Ythgfaadlnffpcaa.EV (docC evC fldC doc_at BoolLeft IntLeft)

/-- The error's number. -/
def errC (b : Bool) : Int := if b then 0 else 120
set_option maxRecDepth 100000 in
set_option maxHeartbeats 4000000 in
theorem ccheck_any (v : Value) (l : List Doc) (w : World) (hv : RAny docC w v l) : Calls Try.prog 10 #[v] w (IntLeft (errC (isS l)) w) := by
  obtain ⟨p, cap, rfl, hlc, hcm, _⟩ := hv.shape
  unfold maxLen at hcm
  by_cases hl : l.length ≤ 65536
  · obtain ⟨RES, hRES⟩ : ∃ RES, isS l = RES := ⟨_, rfl⟩
    have h0 : isR 0 (l.drop 0) = RES := by rw [← hRES]; unfold isS; rw [decide_eq_true hl]; simp
    have q0 : decide ((l.length : Int) > 65536) = false := by rw [decide_eq_false_iff_not]; omega
    have q00 : decide (65536 < l.length) = false := decide_eq_false (by omega)
    rw [hRES]
    have H0 := Lib.hid h0
    have HV := Lib.hid hv
    clear h0 hRES hv
    go_enter Try.func10, Try.ntmps10
    go_wp2_with fail
    go_loopw [3, 11] (fun lv iv wr => ∃ (i : Nat) (z : Int), i ≤ l.length ∧ iv = .int .i64 i ∧ lv = .int .i64 z ∧ Hid (isR z (l.drop i) = RES) ∧ Hid (Below w.heap.size w wr)) (fun _ iv _ => l.length - (intOf iv).toNat)
    case atStart => exact ⟨0, 0, by omega, rfl, rfl, H0, Lib.hid (Below.refl _ _)⟩
    case round =>
      obtain ⟨i, z, hi, rfl, rfl, HI, HB⟩ := hrel
      clear H0
      by_cases hlt : i < l.length
      · have q1 : decide ((i : Int) < (l.length : Int)) = true := by rw [decide_eq_true_eq]; omega
        have q2 : decide (i < l.length) = true := by rw [decide_eq_true_eq]; omega
        have q3 : (i : Int) < (l.length : Int) := by omega
        obtain ⟨b, off, vf, rfl, hbl, _, c1, c2, c3, hf⟩ := doc_at (HV.out.below HB.out) hlt
        have hnx := HI.out
        rw [isR_step hlt] at hnx
        obtain ⟨⟨sq, ⟨at_, fs⟩⟩, hd⟩ : ∃ d, l[i] = d := ⟨_, rfl⟩
        rw [hd] at c1 c2 hf hnx
        dsimp only at c1 c2 hf hnx
        obtain ⟨pf, cf, rfl, _⟩ := hf.shape
        unfold okS at hnx
        dsimp only at hnx
        obtain ⟨q, hq⟩ : ∃ q, wr.heap.size = q := ⟨_, rfl⟩
        obtain ⟨w1, hw1⟩ : ∃ w1, wr.alloc (.cells #[.int .i64 sq, .int .i64 at_, .slice pf fs.length cf] 45) = w1 := ⟨_, rfl⟩
        have hb1 : Below wr.heap.size wr w1 := by rw [← hw1]; exact (Below.refl _ _).alloc (Nat.le_refl _) _
        have T1 : Hid (Three w1 q 45 (.int .i64 sq) (.int .i64 at_) (.slice pf fs.length cf)) := Lib.hid (by rw [← hw1, ← hq]; exact three_new wr 45 _ _ _)
        have HB1 := Lib.hid (HB.out.trans (hb1.mono HB.out.size))
        have HC := Lib.hid (EV.check_any at_ (.slice pf fs.length cf) fs w1 (hf.any.below hb1))
        have HW1 := Lib.hid hw1
        clear hb1 hw1 hf HB
        by_cases h1 : z < sq
        · by_cases h2 : sq ≤ 1099511627776
          · have t1 : decide (sq ≤ z) = false := by rw [decide_eq_false_iff_not]; omega
            have t2 : decide (sq > 1099511627776) = false := by rw [decide_eq_false_iff_not]; omega
            have t3 : decide (1099511627776 < sq) = false := by rw [decide_eq_false_iff_not]; omega
            rw [decide_eq_true h1, decide_eq_true h2, Bool.true_and, Bool.true_and] at hnx
            have HN := Lib.hid hnx
            have HLT := Lib.hid hlt
            clear HI hnx hd h1 h2 hlt
            go_wp2_with fail
            rw [HW1.out]
            refine HC.out.mono ?_
            rintro e w2 ⟨rfl, hb2⟩
            have HB2 := Lib.hid (HB1.out.trans (hb2.mono HB1.out.size))
            obtain ⟨f0, f1, f2⟩ := (T1.out.below hb2 T1.out.lt).cells
            clear hb2 HC c1 c2 c3 T1 HB1
            obtain ⟨c, hc⟩ : ∃ c, checkE (at_, fs) = c := ⟨_, rfl⟩
            have hn := HN.out
            rw [hc] at hn ⊢
            by_cases h3 : c = 0
            · have t4 : (c != 0) = false := by simp [h3]
              rw [decide_eq_true h3, Bool.true_and] at hn
              have HN2 := Lib.hid hn
              clear HN hn hc h3
              go_wp2_with fail
              have hlt := HLT.out
              go_roundw
              case rel => exact ⟨i + 1, sq, by omega, by go_num, rfl, HN2, HB2⟩
              case measure => simp [intOf]; omega
            · have t4 : (c != 0) = true := by simp [h3]
              rw [decide_eq_false h3, Bool.false_and] at hn
              subst hn
              clear HN hc h3
              go_wp2_with fail
              go_ret
              exact ⟨rfl, HB2.out⟩
          · have t1 : decide (sq ≤ z) = false := by rw [decide_eq_false_iff_not]; omega
            have t2 : decide (sq > 1099511627776) = true := by rw [decide_eq_true_eq]; omega
            have t3 : decide (1099511627776 < sq) = true := by rw [decide_eq_true_eq]; omega
            rw [decide_eq_false h2, Bool.and_false, Bool.false_and, Bool.false_and] at hnx
            subst hnx
            have HB9 : Hid (Below w.heap.size w (wr.alloc (.cells #[.int .i64 sq, .int .i64 at_, .slice pf fs.length cf] 45))) := Lib.hid (by rw [HW1.out]; exact HB1.out)
            clear HI hd h1 h2 HC T1 HB1 HW1
            go_wp2_with fail
            go_ret
            exact ⟨rfl, HB9.out⟩
        · have t1 : decide (sq ≤ z) = true := by rw [decide_eq_true_eq]; omega
          rw [decide_eq_false h1, Bool.false_and, Bool.false_and, Bool.false_and] at hnx
          subst hnx
          have HB9 : Hid (Below w.heap.size w (wr.alloc (.cells #[.int .i64 sq, .int .i64 at_, .slice pf fs.length cf] 45))) := Lib.hid (by rw [HW1.out]; exact HB1.out)
          clear HI hd h1 HC T1 HB1 HW1
          go_wp2_with fail
          go_ret
          exact ⟨rfl, HB9.out⟩
      · obtain rfl : i = l.length := by omega
        have q1 : decide ((l.length : Int) < (l.length : Int)) = false := by simp
        have q2 : decide (l.length < l.length) = false := by simp
        have hn := HI.out
        rw [isR_end] at hn
        subst hn
        clear HI hlt
        go_wp2_with fail
        go_ret
        exact ⟨rfl, HB.out⟩
  · have q0 : decide ((l.length : Int) > 65536) = true := by rw [decide_eq_true_eq]; omega
    have q00 : decide (65536 < l.length) = true := decide_eq_true (by omega)
    have e : isS l = false := by unfold isS; rw [decide_eq_false hl]; rfl
    rw [e]
    clear e hv hl
    go_enter Try.func10, Try.ntmps10
    go_wp2_with fail
    go_ret
    exact ⟨rfl, Below.refl _ _⟩
end Go.Proofs.Ythgfaadlnffpcaa.ST
