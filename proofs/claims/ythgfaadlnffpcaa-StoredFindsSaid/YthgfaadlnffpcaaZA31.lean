/-
  A row out of any bytes: the reference's. No condition.
-/
import Derived.Test.YthgfaadlnffpcaaZA29
import Derived.Test.YthgfaadlnffpcaaZA30
set_option linter.unusedVariables false
namespace Go.Proofs.Ythgfaadlnffpcaa.ST
open Go Go.RowKit Go.Proofs.Ythgfaadlnffpcaa.MM Go.Proofs.Ythgfaadlnffpcaa.EM Go.Proofs.Ythgfaadlnffpcaa.SM Go.Proofs.Ythgfaadlnffpcaa.VM Go.Proofs.Ythgfaadlnffpcaa.DM
open Go.Proofs.Ythgfaadlnffpcaa.EV (docC evC fldC doc_at doc_on docE BoolLeft IntLeft getR getR_some getR_none RGot NewF IsF rget_in)

theorem docF_apt {B : Nat} {w : World} {b : Nat} (h : IsF w b) : Apt 45 B w b := .inr fun cur fr hc => by
  obtain ⟨c2, f2, h2⟩ := h
  rw [hc] at h2
  simp at h2
theorem docF_own {B : Nat} {S : Nat → Prop} {w : World} {v : Value} {es : List Doc} (h : OwnX docC 45 B S w v es) {b : Nat} (hb : IsF w b) : v.ownBlock ≠ some b := fun e => by
  obtain ⟨c2, f2, h2⟩ := hb
  obtain ⟨_, _, cur, fr, hc⟩ := h.cells e
  rw [hc] at h2
  simp at h2
theorem skip_aux {α : Type} (o : Option (Nat × List UInt8)) (F : List UInt8 → Option α) : (match o with
    | none => none
    | some (_, y) => F y) = if true = true ∧ o.isSome = true then F ((o.map (·.2)).getD []) else none := by
  cases o with
  | none => simp
  | some q => obtain ⟨b, y⟩ := q; simp
theorem skip_step (k : Nat) (L : List UInt8) : skipH (k + 1) L = if (getN L 1099511627776).isSome = true ∧ (getN (((getN L 1099511627776).map (·.2)).getD []) 1099511627776).isSome = true
    then skipH k (((getN (((getN L 1099511627776).map (·.2)).getD []) 1099511627776).map (·.2)).getD []) else none := by
  rw [skipH]
  cases h1 : getN L 1099511627776 with
  | none => simp
  | some p =>
    obtain ⟨a, x⟩ := p
    dsimp only [Option.map_some, Option.getD_some, Option.isSome_some]
    exact skip_aux (getN x 1099511627776) (skipH k)
theorem rd_step (f : Nat) (last : Int) (acc : List Doc) (L x : List UInt8) (o : Option (Nat × List UInt8)) (ho : getN L 1099511627776 = o) (hx : (o.map (·.2)).getD [] = x) :
    rdR (f + 1) last acc L = if o.isSome = true ∧ (getR x).2.2 = 0 then rdR f (last + 1 + ((o.map (·.1)).getD 0 : Nat)) (acc ++ [(last + 1 + ((o.map (·.1)).getD 0 : Nat), (getR x).1)]) (getR x).2.1 else none := by
  subst hx
  rw [rdR, ho]
  cases o with
  | none => simp
  | some p =>
    obtain ⟨a, x⟩ := p
    dsimp only [Option.map_some, Option.getD_some, Option.isSome_some]
    cases h2 : getE x with
    | none => simp [getR_none h2]
    | some q => obtain ⟨e, y⟩ := q; simp [getR_some h2]
theorem getR_fit {x : List UInt8} (h : (getR x).2.2 = 0) : FitE (getR x).1 := by
  cases h2 : getE x with
  | none => rw [getR_none h2] at h; simp at h
  | some q => obtain ⟨e, y⟩ := q; rw [getR_some h2]; exact (getE_back h2).2.1
/-- What is told once the heads are skipped, or are not. -/
def goS (n : Nat) : Option (List UInt8) → Option (List Doc)
  | none => none
  | some y => rdR n 0 [] y
/-- What is told once the docs are read, or are not. -/
def finS (bs : List UInt8) : Option (List Doc) → Option (List Doc)
  | none => none
  | some l => if isS l = true ∧ encS l = bs then some l else none
/-- Docs and an error's number. -/
def DocsS (o : Option (List Doc)) (w : World) (e : Ending) (w' : World) : Prop :=
  ∃ u S, e = .returned (.tuple #[u, .int .i64 (if o.isSome then 0 else 120)]) ∧ OwnX docC 45 w.heap.size S w' u (o.getD []) ∧ (∀ b, S b → w.heap.size ≤ b ∧ IsF w' b) ∧ Below w.heap.size w w'
theorem docs_none (w w' : World) (h : Below w.heap.size w w') : DocsS none w (.returned (.tuple #[.slice none 0 0, .int .i64 120])) w' :=
  ⟨_, fun _ => False, rfl, OwnX.nil_ _ _ _ _, fun _ h => h.elim, h⟩

set_option maxRecDepth 100000 in
set_option maxHeartbeats 8000000 in
theorem rdec_any (v : Value) (bs : List UInt8) (w : World) (hr : BRow w v bs) : Calls Try.prog 18 #[v] w (DocsS (decS bs) w) := by
  have hva : BIn w.heap.size w v bs := hr
  obtain ⟨pv, cv, rfl, hcv1, hcv2⟩ := hva.shape
  unfold maxLen at hcv2
  have HV := Lib.hid hva
  have HG0 := Lib.hid (rgetn_in w.heap.size _ bs 65536 w hva (Nat.le_refl _) (by omega))
  have HNUM := Lib.hid (fun v l W (h : BIn w.heap.size W v l) (hb : w.heap.size ≤ W.heap.size) => rgetn_in w.heap.size v l 1099511627776 W h hb (by omega))
  have HGET := Lib.hid (fun v l W (h : BIn w.heap.size W v l) (hb : w.heap.size ≤ W.heap.size) => rget_in w.heap.size v l W h hb)
  have HFAIL := Lib.hid (docs_none w)
  obtain ⟨RD, hRD⟩ : ∃ r, rdS bs = r := ⟨_, rfl⟩
  obtain ⟨FIN, hF⟩ : ∃ f, decS bs = f := ⟨_, rfl⟩
  have HF : Hid (finS bs RD = FIN) := Lib.hid (by rw [← hF, ← hRD]; unfold decS; cases rdS bs <;> rfl)
  rw [hF]
  unfold rdS at hRD
  obtain ⟨o0, ho0⟩ : ∃ o, getN bs 65536 = o := ⟨_, rfl⟩
  rw [ho0] at HG0 hRD
  obtain ⟨n, hn⟩ : ∃ n, (o0.map (·.1)).getD 0 = n := ⟨_, rfl⟩
  obtain ⟨L0, hL0⟩ : ∃ rr, (o0.map (·.2)).getD [] = rr := ⟨_, rfl⟩
  obtain ⟨b0, hb0⟩ : ∃ bb, o0.isSome = bb := ⟨_, rfl⟩
  have hn2 : n ≤ 65536 := by
    rw [← hn]
    cases o0 with
    | none => simp
    | some p => exact getN_most ho0
  have HRD : Hid ((if b0 = true ∧ n ≤ bs.length then goS n (skipH (blocksN n) L0) else none) = RD) := Lib.hid (by
    rw [← hRD, ← hn, ← hL0, ← hb0]
    cases o0 with
    | none => simp
    | some p =>
      obtain ⟨a, y⟩ := p
      dsimp only [Option.map_some, Option.getD_some, Option.isSome_some]
      by_cases h : bs.length < a
      · rw [if_neg (by omega), if_pos h]
      · rw [if_pos ⟨rfl, by omega⟩, if_neg h]
        cases skipH (blocksN a) y <;> rfl)
  unfold GotNum at HG0
  rw [hn, hL0, hb0] at HG0
  clear hr hva hRD ho0 hn hL0 hb0 hF
  go_enter Try.func18, Try.ntmps18
  go_wp2_with fail
  refine HG0.out.mono ?_
  rintro e w1 ⟨v1, rfl, hv1, hb1⟩
  have HV1 := Lib.hid hv1
  have HB1 := Lib.hid hb1
  clear hv1 hb1 HG0
  by_cases hgo : b0 = true ∧ n ≤ bs.length
  · obtain ⟨rfl, hnb⟩ := hgo
    have hrd := HRD.out
    rw [if_pos ⟨rfl, hnb⟩] at hrd
    have HRD2 := Lib.hid hrd
    have t1 : decide ((n : Int) > (bs.length : Int)) = false := by rw [decide_eq_false_iff_not]; omega
    have t2 : decide (bs.length < n) = false := decide_eq_false (by omega)
    obtain ⟨SK, hSK⟩ : ∃ s, skipH (blocksN n) L0 = s := ⟨_, rfl⟩
    rw [hSK] at HRD2
    have HSK0 : Hid (skipH (blocksN n - 0) L0 = SK) := Lib.hid hSK
    clear hrd HRD hSK
    go_wp2_with fail
    go_loopw [5, 7] (fun rv iv wr => ∃ (c I : Nat) (L : List UInt8), Hid (I = 16 * c ∧ c ≤ blocksN n) ∧ I ≤ n + 15 ∧ iv = .int .i64 I ∧ Hid (skipH (blocksN n - c) L = SK) ∧ Hid (BIn w.heap.size wr rv L) ∧ Hid (Below w.heap.size w wr)) (fun _ iv _ => n + 16 - (intOf iv).toNat)
    case atStart => exact ⟨0, 0, L0, Lib.hid ⟨rfl, Nat.zero_le _⟩, by omega, rfl, HSK0, HV1, HB1⟩
    case round =>
      obtain ⟨c, I, L, HI, hi, rfl, HSK, HL, HB⟩ := hrel
      clear HSK0 HV1 HB1
      have hsw : w.heap.size ≤ wr.heap.size := HB.out.size
      by_cases hlt : I < n
      · have q1 : decide ((I : Int) < (n : Int)) = true := by rw [decide_eq_true_eq]; omega
        have q2 : decide (I < n) = true := decide_eq_true hlt
        have hcn : c < blocksN n := by have := HI.out.1; unfold blocksN; omega
        have hs := HSK.out
        rw [show blocksN n - c = blocksN n - (c + 1) + 1 by omega, skip_step] at hs
        obtain ⟨o1, ho1⟩ : ∃ o, getN L 1099511627776 = o := ⟨_, rfl⟩
        have HG1 := Lib.hid (HNUM.out u5 L wr HL.out hsw)
        rw [ho1] at HG1 hs
        obtain ⟨x, hx⟩ : ∃ x, (o1.map (·.2)).getD [] = x := ⟨_, rfl⟩
        obtain ⟨d1, hd1⟩ : ∃ x, (o1.map (·.1)).getD 0 = x := ⟨_, rfl⟩
        obtain ⟨b1, hb1⟩ : ∃ x, o1.isSome = x := ⟨_, rfl⟩
        unfold GotNum at HG1
        rw [hx, hd1, hb1] at HG1
        rw [hx, hb1] at hs
        obtain ⟨o2, ho2⟩ : ∃ o, getN x 1099511627776 = o := ⟨_, rfl⟩
        have HG2 := Lib.hid (fun v W h hb => HNUM.out v x W h hb)
        rw [ho2] at HG2 hs
        obtain ⟨y, hy⟩ : ∃ x, (o2.map (·.2)).getD [] = x := ⟨_, rfl⟩
        obtain ⟨d2, hd2⟩ : ∃ x, (o2.map (·.1)).getD 0 = x := ⟨_, rfl⟩
        obtain ⟨b2, hb2⟩ : ∃ x, o2.isSome = x := ⟨_, rfl⟩
        unfold GotNum at HG2
        rw [hy, hd2, hb2] at HG2
        rw [hy, hb2] at hs
        have HS := Lib.hid hs
        have HI2 : Hid (I + 16 = 16 * (c + 1) ∧ c + 1 ≤ blocksN n) := Lib.hid ⟨by have := HI.out.1; omega, hcn⟩
        clear ho1 hx hd1 hb1 ho2 hy hd2 hb2 hs HSK HI hcn
        go_wp2_with fail
        refine HG1.out.mono ?_
        rintro e w2 ⟨v2, rfl, hv2, hb2⟩
        have HV2 := Lib.hid hv2
        have HB2 := Lib.hid (HB.out.trans (hb2.mono hsw))
        have hs2 : w.heap.size ≤ w2.heap.size := HB2.out.size
        clear hv2 hb2 HG1 HB HL
        go_wp2_with fail
        refine (HG2.out v2 w2 HV2.out hs2).mono ?_
        rintro e w3 ⟨v3, rfl, hv3, hb3⟩
        have HV3 := Lib.hid hv3
        have HB3 := Lib.hid (HB2.out.trans (hb3.mono hs2))
        clear hv3 hb3 HG2 HB2 HV2
        cases b1 with
        | false =>
          have hs := HS.out
          rw [if_neg (by simp)] at hs
          have hf := HF.out
          rw [← HRD2.out, ← hs] at hf
          have hf : none = FIN := hf
          subst hf
          clear hs HS
          go_wp2_with fail
          go_ret2
          exact HFAIL.out _ HB3.out
        | true =>
          cases b2 with
          | false =>
            have hs := HS.out
            rw [if_neg (by simp)] at hs
            have hf := HF.out
            rw [← HRD2.out, ← hs] at hf
            have hf : none = FIN := hf
            subst hf
            clear hs HS
            go_wp2_with fail
            go_ret2
            exact HFAIL.out _ HB3.out
          | true =>
            have hs := HS.out
            rw [if_pos ⟨rfl, rfl⟩] at hs
            have HS2 := Lib.hid hs
            clear hs HS
            go_wp2_with fail
            go_roundw
            case rel => exact ⟨c + 1, I + 16, y, HI2, by omega, by go_num, HS2, HV3, HB3⟩
            case measure => simp [intOf]; omega
      · have q1 : decide ((I : Int) < (n : Int)) = false := by rw [decide_eq_false_iff_not]; omega
        have q2 : decide (I < n) = false := decide_eq_false hlt
        have hc : blocksN n - c = 0 := by have := HI.out; unfold blocksN; omega
        have hs := HSK.out
        rw [hc, skipH] at hs
        have hrd := HRD2.out
        rw [← hs] at hrd
        have hrd : rdR (n - 0) 0 [] L = RD := hrd
        have HD0 := Lib.hid hrd
        have HF0 : Hid (FitS []) := Lib.hid (fun d h => by simp at h)
        have HO0 := Lib.hid (OwnX.nil_ (C := docC) 45 w.heap.size (fun _ => False) wr)
        have HS0 : Hid (∀ b, (fun _ => False) b → w.heap.size ≤ b ∧ IsF wr b) := Lib.hid (fun _ h => h.elim)
        obtain ⟨W0, rfl⟩ : ∃ W0, W0 = wr := ⟨_, rfl⟩
        clear hc hs hrd HRD2 HSK HI
        go_wp2_with fail
        go_loopw [5, 14, 15, 16] (fun rv lv zv iv wr => ∃ (i : Nat) (z : Int) (acc : List Doc) (L : List UInt8) (S : Nat → Prop), i ≤ n ∧ iv = .int .i64 i ∧ zv = .int .i64 z ∧ 0 ≤ z ∧ z ≤ 1099511627777 * (i : Int) ∧ acc.length = i ∧ Hid (rdR (n - i) z acc L = RD) ∧ Hid (FitS acc) ∧ Hid (BIn w.heap.size wr rv L) ∧ Hid (OwnX docC 45 w.heap.size S wr lv acc) ∧ Hid (∀ b, S b → w.heap.size ≤ b ∧ IsF wr b) ∧ Hid (Below w.heap.size w wr)) (fun _ _ _ iv _ => n - (intOf iv).toNat)
        case atStart => exact ⟨0, 0, [], L, _, by omega, rfl, rfl, by omega, by omega, rfl, HD0, HF0, HL, HO0, HS0, HB⟩
        case round =>
          obtain ⟨i, z, acc, L, S, hi, rfl, rfl, hz0, hz1, hal, HD, HFT, HL, HO, HS, HB⟩ := hrel
          clear HD0 HF0 HO0 HS0
          have hsw : w.heap.size ≤ wr.heap.size := HB.out.size
          by_cases hlt : i < n
          · have q1 : decide ((i : Int) < (n : Int)) = true := by rw [decide_eq_true_eq]; omega
            have q2 : decide (i < n) = true := decide_eq_true hlt
            have hd := HD.out
            obtain ⟨o1, ho1⟩ : ∃ o, getN L 1099511627776 = o := ⟨_, rfl⟩
            obtain ⟨x, hx⟩ : ∃ x, (o1.map (·.2)).getD [] = x := ⟨_, rfl⟩
            rw [show n - i = n - (i + 1) + 1 by omega, rd_step _ _ _ _ x o1 ho1 hx] at hd
            have HG1 := Lib.hid (HNUM.out u5 L wr HL.out hsw)
            rw [ho1] at HG1
            have hdm : (o1.map (·.1)).getD 0 ≤ 1099511627776 := by
              cases o1 with
              | none => simp
              | some p => exact getN_most ho1
            obtain ⟨d1, hd1⟩ : ∃ x, (o1.map (·.1)).getD 0 = x := ⟨_, rfl⟩
            obtain ⟨b1, hb1⟩ : ∃ x, o1.isSome = x := ⟨_, rfl⟩
            unfold GotNum at HG1
            rw [hx, hd1, hb1] at HG1
            rw [hd1, hb1] at hd
            rw [hd1] at hdm
            have HG2 := Lib.hid (fun v W h hb => HGET.out v x W h hb)
            have hft := @getR_fit x
            obtain ⟨⟨⟨tm, fs⟩, l4, er⟩, hG⟩ : ∃ G, getR x = G := ⟨_, rfl⟩
            rw [hG] at hd HG2 hft
            dsimp only at hd hft
            have HDD := Lib.hid hd
            have HFE := Lib.hid hft
            clear ho1 hx hd1 hb1 hd hG HD hft
            go_wp2_with fail
            refine HG1.out.mono ?_
            rintro e w2 ⟨v2, rfl, hv2, hb2⟩
            have hs2' := hb2.size
            have HV2 := Lib.hid hv2
            have HB2 := Lib.hid (HB.out.trans (hb2.mono hsw))
            have hs2 : w.heap.size ≤ w2.heap.size := HB2.out.size
            have HO2 := Lib.hid (HO.out.keep (kep_below (fun _ => True) hb2) (fun _ _ _ => trivial) (fun _ _ => trivial))
            have HS2 : Hid (∀ b, S b → w.heap.size ≤ b ∧ IsF w2 b) := Lib.hid (fun b hb => ⟨(HS.out b hb).1, (HS.out b hb).2.keep (kep_below (fun _ => True) hb2) trivial⟩)
            clear hv2 hb2 HG1 HB HL HO HS
            go_wp2_with fail
            refine (HG2.out v2 w2 HV2.out hs2).mono ?_
            rintro e w5 ⟨ue, v5, rfl, hue, hv5, hb5⟩
            dsimp only at hue hv5 ⊢
            obtain ⟨pe, ce, rfl, _⟩ := hue.shape
            have hs5 := hb5.size
            obtain ⟨g5, hg5⟩ : ∃ g5, w5.heap.size = g5 := ⟨_, rfl⟩
            obtain ⟨w6, hw6⟩ : ∃ w6, w5.alloc (.cells #[.int .i64 tm, .slice pe fs.length ce] 43) = w6 := ⟨_, rfl⟩
            have hba : Below w5.heap.size w5 w6 := by rw [← hw6]; exact (Below.refl _ _).alloc (Nat.le_refl _) _
            have hs6 : w6.heap.size = g5 + 1 := by rw [← hw6, ← hg5]; simp
            have x6 : Two w6 g5 43 (.int .i64 tm) (.slice pe fs.length ce) := by rw [← hw6, ← hg5]; exact two_new w5 43 _ _
            have h06 : Below w2.heap.size w2 w6 := hb5.trans (hba.mono hs5)
            have HV6 := Lib.hid (hv5.below (hba.mono (by omega)))
            have HE6 := Lib.hid (ROn.keep hue (kep_below _ hba) fun _ _ h => h)
            have HB6 := Lib.hid (HB2.out.trans (h06.mono hs2))
            have ho6 := HO2.out.keep (kep_below (fun _ => True) h06) (fun _ _ _ => trivial) (fun _ _ => trivial)
            have HO6 := Lib.hid (ho6.weak (T := fun b => S b ∨ NewF w2 w5 b) (fun b _ hb => .inl hb))
            have HS6 : Hid (∀ b, (S b ∨ NewF w2 w5 b) → w.heap.size ≤ b ∧ IsF w6 b) := Lib.hid (fun b hb => hb.elim (fun h => ⟨(HS2.out b h).1, (HS2.out b h).2.keep (kep_below (fun _ => True) h06) trivial⟩) (fun h => ⟨by have := h.1; omega, h.2.keep (kep_below (fun _ => True) hba) trivial⟩))
            have HW6 := Lib.hid hw6
            have m0 := x6.c0
            have m1 := x6.c1
            rw [← hw6] at m0 m1
            clear hb5 hba hv5 x6 h06 ho6 HO2 HS2 HG2 hue hw6 HB2 HV2
            by_cases hok : b1 = true ∧ er = 0
            · obtain ⟨rfl, rfl⟩ := hok
              have hd := HDD.out
              rw [if_pos ⟨rfl, rfl⟩] at hd
              have HD2 := Lib.hid hd
              have a1 : IntKind.i64.wrap (z + 1) = z + 1 := by rw [IntKind.wrap_i64]; omega
              have a2 : IntKind.i64.wrap (z + 1 + (d1 : Int)) = z + 1 + (d1 : Int) := by rw [IntKind.wrap_i64]; omega
              have HON := Lib.hid (show docC.on (fun b => S b ∨ NewF w2 w5 b) w6 [.int .i64 (z + 1 + (d1 : Int)), .int .i64 tm, .slice pe fs.length ce] (z + 1 + (d1 : Int), (tm, fs)) from doc_on.2 ⟨_, rfl, HE6.out.weak fun b _ hb => .inr hb⟩)
              have HS7 := Lib.hid (src_lit (C := docC) (S := fun b => S b ∨ NewF w2 w5 b) (w := w6) (vs := [.int .i64 (z + 1 + (d1 : Int)), .int .i64 tm, .slice pe fs.length ce]) (d := (z + 1 + (d1 : Int), (tm, fs))) 45 HON.out)
              have HO7 := Lib.hid (HO6.out.alloc (.cells #[.int .i64 (z + 1 + (d1 : Int)), .int .i64 tm, .slice pe fs.length ce] 45))
              have hka : Kep (fun _ => True) w6 (w6.alloc (.cells #[.int .i64 (z + 1 + (d1 : Int)), .int .i64 tm, .slice pe fs.length ce] 45)) := kep_alloc _ _ _
              have HSS7 : Hid (∀ b, (S b ∨ NewF w2 w5 b) → w.heap.size ≤ b ∧ IsF (w6.alloc (.cells #[.int .i64 (z + 1 + (d1 : Int)), .int .i64 tm, .slice pe fs.length ce] 45)) b) := Lib.hid (fun b hb => ⟨(HS6.out b hb).1, (HS6.out b hb).2.keep hka trivial⟩)
              have HB7 := Lib.hid (HB6.out.trans (hka.below (B := w.heap.size) HB6.out.size (fun _ _ => trivial)))
              have HV7 := Lib.hid (HV6.out.below (hka.below (B := w.heap.size) HB6.out.size (fun _ _ => trivial)))
              have HLO := Lib.hid (fun k (h : u14.ownBlock = some k) => (HO6.out.cells h).1)
              have HFN : Hid (FitS (acc ++ [(z + 1 + (d1 : Int), (tm, fs))])) := Lib.hid (fun d hd => by
                rcases List.mem_append.1 hd with hd | hd
                · exact HFT.out d hd
                · obtain rfl := List.mem_singleton.1 hd
                  exact HFE.out rfl)
              have hl9 : (acc ++ [(z + 1 + (d1 : Int), ((tm, fs) : Ev))]).length = i + 1 := by rw [List.length_append, hal]; rfl
              rw [hs6] at HS7
              rw [← HW6.out] at HS7 HO7 HSS7 HB7 HV7
              clear hd HDD hka HB6 HV6 HO6 HS6 HE6 HON HFT HFE
              go_wp2_with (at_builtin; go_loud (refine wpList_append_x docE rfl _ _ rfl w.heap.size u14 acc rfl HO7.out (fun b _ hb => docF_apt (HSS7.out b hb).2) _ [(z + 1 + (d1 : Int), (tm, fs))] rfl HS7.out (by unfold maxLen; simp; omega) (by simp; omega) (by simp; omega) ?_; intro v8 w8 ho8 hb8 hk8; obtain ⟨p8, c8, rfl, _⟩ := ho8.any.shape; have HO8 := Lib.hid ho8; have HV8 := Lib.hid (HV7.out.below hb8); have HB8 := Lib.hid (HB7.out.trans hb8); have HS8 : Hid (∀ b, (S b ∨ NewF w2 w5 b) → w.heap.size ≤ b ∧ IsF w8 b) := Lib.hid (fun b hb => ⟨(HSS7.out b hb).1, (HSS7.out b hb).2.keep hk8 (docF_own HO7.out (HSS7.out b hb).2)⟩); clear ho8 hb8 hk8 HO7 HS7 HB7 HV7 HSS7))
              rw [hl9] at HO8
              go_roundw
              case rel => exact ⟨i + 1, z + 1 + (d1 : Int), acc ++ [(z + 1 + (d1 : Int), (tm, fs))], _, _, by omega, by go_num, rfl, by omega, by omega, hl9, HD2, HFN, HV8, HO8, HS8, HB8⟩
              case measure => simp [intOf]; omega
            · have hd := HDD.out
              rw [if_neg hok] at hd
              have hf := HF.out
              rw [← hd] at hf
              have hf : none = FIN := hf
              subst hf
              have HQ := Lib.hid (HFAIL.out _ HB6.out)
              rw [← HW6.out] at HQ
              clear hd HDD HB6 HV6 HO6 HS6 HE6
              cases b1 with
              | false =>
                go_wp2_with fail
                go_ret2
                exact HQ.out
              | true =>
                have t8 : (er != 0) = true := by rw [bne_iff_ne]; exact fun h => hok ⟨rfl, h⟩
                go_wp2_with fail
                go_ret2
                exact HQ.out
          · obtain rfl : i = n := by omega
            have q1 : decide ((i : Int) < (i : Int)) = false := by simp
            have q2 : decide (i < i) = false := by simp
            have hn : rdR (i - i) z acc L = RD := HD.out
            rw [Nat.sub_self, rdR] at hn
            subst hn
            have hf : (if isS acc = true ∧ encS acc = bs then some acc else none) = FIN := HF.out
            have HR := Lib.hid (renc_any u14 acc wr HO.out.any HFT.out)
            by_cases hA : isS acc = true
            · rw [if_pos hA, if_pos hA] at HR
              have hres : (if isS acc = true ∧ encS acc = bs then some acc else none) = (if encS acc = bs then some acc else none) := by simp [hA]
              rw [hres] at hf
              clear HF
              generalize encS acc = E at *
              have HF := Lib.hid hf
              clear hf hA hres HL HD hlt
              go_wp2_with fail
              refine HR.out.mono ?_
              rintro e w5 ⟨v5, rfl, ho5, hb5⟩
              have c1 := BIn.conv (OwnB.brow ho5)
              have hb9 := HB.out.trans (hb5.mono HB.out.size)
              have c2 := BIn.conv (HV.out.below hb9)
              have hsl := same_list E bs
              have HB9 := Lib.hid hb9
              have HO9 := Lib.hid (HO.out.keep (kep_below (fun _ => True) hb5) (fun _ _ _ => trivial) (fun _ _ => trivial))
              have HS9 : Hid (∀ b, S b → w.heap.size ≤ b ∧ IsF w5 b) := Lib.hid (fun b hb => ⟨(HS.out b hb).1, (HS.out b hb).2.keep (kep_below (fun _ => True) hb5) trivial⟩)
              clear ho5 hb5 hb9 HR HO HB HS
              by_cases he : E = bs
              · have q5 : (E == bs) = true := by rw [beq_iff_eq]; exact he
                have q6 : (E != bs) = false := by rw [bne_eq_false_iff_eq]; exact he
                have hd : decide (E = bs) = true := decide_eq_true he
                rw [hd] at hsl
                have hf := HF.out
                rw [if_pos he] at hf
                subst hf
                clear he
                go_wp2_with fail
                go_ret2
                exact ⟨_, _, rfl, HO9.out, HS9.out, HB9.out⟩
              · have q5 : (E == bs) = false := by rw [beq_eq_false_iff_ne]; exact he
                have q6 : (E != bs) = true := by rw [bne_iff_ne]; exact he
                have hd : decide (E = bs) = false := decide_eq_false he
                rw [hd] at hsl
                have hf := HF.out
                rw [if_neg he] at hf
                subst hf
                clear he
                go_wp2_with fail
                go_ret2
                exact HFAIL.out _ HB9.out
            · rw [if_neg hA, if_neg hA] at HR
              have hres : (if isS acc = true ∧ encS acc = bs then some acc else none) = none := by simp [hA]
              rw [hres] at hf
              subst hf
              clear hA hres HL HD hlt
              go_wp2_with fail
              refine HR.out.mono ?_
              rintro e w5 ⟨v5, rfl, ho5, hb5⟩
              have HB9 := Lib.hid (HB.out.trans (hb5.mono HB.out.size))
              clear ho5 hb5 HR HO HB
              go_wp2_with fail
              go_ret2
              exact HFAIL.out _ HB9.out
  · have hrd := HRD.out
    rw [if_neg hgo] at hrd
    have hf := HF.out
    rw [← hrd] at hf
    have hf : none = FIN := hf
    subst hf
    clear hrd HRD HF
    cases b0 with
    | false =>
      go_wp2_with fail
      go_ret2
      exact HFAIL.out _ HB1.out
    | true =>
      have t1 : decide ((n : Int) > (bs.length : Int)) = true := by rw [decide_eq_true_eq]; have : ¬ n ≤ bs.length := fun h => hgo ⟨rfl, h⟩; omega
      have t2 : decide (bs.length < n) = true := by rw [decide_eq_true_eq]; have : ¬ n ≤ bs.length := fun h => hgo ⟨rfl, h⟩; omega
      go_wp2_with fail
      go_ret2
      exact HFAIL.out _ HB1.out
end Go.Proofs.Ythgfaadlnffpcaa.ST
