/-
  A dictionary's entries out of any bytes: the reference's. Condition: the bytes are fewer than 2^62.
-/
import Derived.Test.YtklngjnjnkocmaaZA31
set_option linter.unusedVariables false
namespace Go.Proofs.Ytklngjnjnkocmaa.DT
open Go Go.RowKit Go.Proofs.Ytklngjnjnkocmaa.MM Go.Proofs.Ytklngjnjnkocmaa.DM Go.Proofs.Ytklngjnjnkocmaa.VM Go.Proofs.Ytklngjnjnkocmaa.VP

/-- What is read yet to be told: what follows, or none. -/
def goD (okb : Bool) (f i : Nat) (A : List UInt8) (acc : List Ent) (L : List UInt8) : Option (List Ent) := if okb then parseD f i A acc L else none
theorem goD_none {f i : Nat} {A L : List UInt8} {acc : List Ent} (hi : i % 16 = 0) (h : getN L 1073741824 = none) : parseD (f + 1) i A acc L = none := by rw [parseD, if_pos hi, h]
theorem goD_head {f i n : Nat} {A L l1 : List UInt8} {acc : List Ent} (hi : i % 16 = 0) (h : getN L 1073741824 = some (n, l1)) : parseD (f + 1) i A acc L = match rdX [] l1 with
    | none => none
    | some (x, r) => parseD f (i + 1) x.1 (acc ++ [x]) r := by
  rw [parseD, if_pos hi, h]
  show (match rdX [] l1 with | none => none | some (x, r) => parseD f (i + 1) x.1 (acc ++ [x]) r) = _
  cases rdX [] l1 <;> rfl
theorem goD_mid {f i : Nat} {A L : List UInt8} {acc : List Ent} (hi : ¬ i % 16 = 0) : parseD (f + 1) i A acc L = match rdX A L with
    | none => none
    | some (x, r) => parseD f (i + 1) x.1 (acc ++ [x]) r := by
  rw [parseD, if_neg hi]
  cases rdX A L <;> rfl
/-- The step behind an entry that was read, or was not. -/
theorem goD_step {f i : Nat} {r : List UInt8} {acc : List Ent} {X : Ent} {o : Option (Ent × List UInt8)} {RD : Option (List Ent)} (h : (match o with
    | none => none
    | some (x, r) => parseD f (i + 1) x.1 (acc ++ [x]) r) = RD) (hX : ∀ p, o = some p → X = p.1 ∧ r = p.2) : goD o.isSome f (i + 1) X.1 (acc ++ [X]) r = RD := by
  cases o with
  | none => rw [← h]; rfl
  | some p =>
    obtain ⟨h1, h2⟩ := hX p rfl
    rw [← h, h1, h2]; rfl
/-- Entries and an error's number. -/
def EntsD (o : Option (List Ent)) (w : World) (e : Ending) (w' : World) : Prop :=
  ∃ u, e = .returned (.tuple #[u, .int .i64 (if o.isSome then 0 else 110)]) ∧ OwnX entC 42 w.heap.size (fun _ => False) w' u (o.getD []) ∧ Below w.heap.size w w'

set_option maxRecDepth 100000 in
set_option maxHeartbeats 4000000 in
theorem rdec_any (v : Value) (bs : List UInt8) (w : World) (hr : BRow w v bs) : Calls Try.prog 12 #[v] w (EntsD (decD bs) w) := by
  have HV := Lib.hid hr
  have HG0 := Lib.hid (rgetn_in w.heap.size v bs 262144 w hr (Nat.le_refl _) (by omega))
  have HNUM := Lib.hid (fun v l m W (h : BIn w.heap.size W v l) (hb : w.heap.size ≤ W.heap.size) (hm : m ≤ 4611686018427387904) => rgetn_in w.heap.size v l m W h hb hm)
  have HENT := Lib.hid (fun v l A W (h : BIn w.heap.size W v l) (hb : w.heap.size ≤ W.heap.size) (hA : A.length ≤ 1000000000000) => rentry_in w.heap.size v l A W h hb hA)
  have hdec : decD bs = match rdD bs with
    | none => none
    | some l => if areD l = true ∧ encD l = bs then some l else none := by unfold decD; cases rdD bs <;> rfl
  obtain ⟨RD, hRD⟩ : ∃ r, rdD bs = r := ⟨_, rfl⟩
  rw [hRD] at hdec
  obtain ⟨FIN, hF⟩ : ∃ f, decD bs = f := ⟨_, rfl⟩
  rw [hF]
  rw [hF] at hdec
  have HF := Lib.hid hdec
  clear hdec hF
  unfold rdD at hRD
  obtain ⟨o0, ho0⟩ : ∃ o, getN bs 262144 = o := ⟨_, rfl⟩
  rw [ho0] at HG0 hRD
  obtain ⟨n, hn⟩ : ∃ n, (o0.map (·.1)).getD 0 = n := ⟨_, rfl⟩
  obtain ⟨L0, hL0⟩ : ∃ rr, (o0.map (·.2)).getD [] = rr := ⟨_, rfl⟩
  obtain ⟨b0, hb0⟩ : ∃ bb, o0.isSome = bb := ⟨_, rfl⟩
  have hn2 : n ≤ 262144 := by
    rw [← hn]
    cases o0 with
    | none => simp
    | some p => exact getN_most ho0
  have HRD : Hid (goD b0 n 0 [] [] L0 = RD) := Lib.hid (by
    rw [← hRD, ← hn, ← hL0, ← hb0]
    cases o0 <;> rfl)
  unfold GotNum at HG0
  rw [hn, hL0, hb0] at HG0
  clear hr hRD ho0 hn hL0 hb0
  go_enter Try.func12, Try.ntmps12
  go_wp2_with fail
  refine HG0.out.mono ?_
  rintro e w1 ⟨v1, rfl, hv1, hb1⟩
  have HV1 := Lib.hid hv1
  have HB1 := Lib.hid hb1
  have HO1 := Lib.hid (OwnX.nil_ (C := entC) 42 w.heap.size (fun _ => False) w1)
  clear hv1 hb1 HG0
  go_wp2_with fail
  go_loopw [5, 6, 7, 8, 9] (fun rv kv lv av iv wr => ∃ (i : Nat) (okb : Bool) (A : List UInt8) (acc : List Ent) (L : List UInt8), i ≤ n ∧ iv = .int .i64 i ∧ kv = .bool okb ∧ av = .string ⟨A.toArray⟩ ∧ A.length ≤ 65 * i ∧ Hid (acc.length = i) ∧ Hid (goD okb (n - i) i A acc L = RD) ∧ Hid (BIn w.heap.size wr rv L) ∧ Hid (OwnX entC 42 w.heap.size (fun _ => False) wr lv acc) ∧ Hid (Below w.heap.size w wr)) (fun _ _ _ _ iv _ => n - (intOf iv).toNat)
  case atStart => exact ⟨0, b0, [], [], L0, by omega, rfl, rfl, rfl, by simp, Lib.hid rfl, HRD, HV1, HO1, HB1⟩
  case round =>
    obtain ⟨i, okb, A, acc, L, hi, rfl, rfl, rfl, hAl, HACC, HD, HL, HO, HB⟩ := hrel
    clear HRD HV1 HO1 HB1
    by_cases hlt : i < n
    · have q1 : decide ((i : Int) < (n : Int)) = true := by rw [decide_eq_true_eq]; omega
      have q2 : decide (i < n) = true := decide_eq_true hlt
      cases okb with
      | true =>
        have hd : parseD (n - (i + 1) + 1) i A acc L = RD := by rw [show n - (i + 1) + 1 = n - i by omega]; exact HD.out
        have hsw : w.heap.size ≤ wr.heap.size := HB.out.size
        by_cases h16 : i % 16 = 0
        · have q3 : ((i : Int) % 16 == 0) = true := by rw [beq_iff_eq]; omega
          have q4 : (i : Int).tmod 16 = 0 := by rw [Int.tmod_eq_emod_of_nonneg (by omega)]; omega
          have hg := HNUM.out u5 L 1073741824 wr HL.out hsw (by omega)
          obtain ⟨o2, ho2⟩ : ∃ o, getN L 1073741824 = o := ⟨_, rfl⟩
          rw [ho2] at hg
          have HG := Lib.hid hg
          have HH := Lib.hid h16
          have HD2 := Lib.hid hd
          clear hg hd h16 HD HL
          go_wp2_with fail
          refine HG.out.mono ?_
          rintro e w3 ⟨v3, rfl, hv3, hb3⟩
          have hs3 := hb3.size
          have HO3 := Lib.hid (HO.out.keep (kep_below (fun _ => True) hb3) (fun _ _ _ => trivial) (fun _ _ => trivial))
          have HB3 := Lib.hid (HB.out.trans (hb3.mono hsw))
          have HV3 := Lib.hid hv3
          clear hb3 hv3 HG HO HB
          cases o2 with
          | none =>
            have hn := HD2.out
            rw [goD_none HH.out ho2] at hn
            subst hn
            dsimp only [Option.map_none, Option.getD_none, Option.isSome_none] at *
            obtain ⟨q, hq⟩ : ∃ q, w3.heap.size = q := ⟨_, rfl⟩
            have huq : ∀ g, u7.ownBlock = some g → g < q := fun g hg => by have := (HO3.out.cells hg).2.1; omega
            have fz : Four (w3.alloc (.cells #[.string ⟨#[]⟩, .int .i64 0, .int .i64 0, .int .i64 0] 42)) q 42 (.string ⟨#[]⟩) (.int .i64 0) (.int .i64 0) (.int .i64 0) := by rw [← hq]; exact four_new w3 42 _ _ _ _
            obtain ⟨n1, n2, n3, n4⟩ := fz.cells
            have HO6 := Lib.hid ((HO3.out.alloc (.cells #[.string ⟨#[]⟩, .int .i64 0, .int .i64 0, .int .i64 0] 42)).alloc (.cells #[.string ⟨#[]⟩, .int .i64 0, .int .i64 0, .int .i64 0] 42))
            have hsr := src_lit (C := entC) (S := fun _ => False) (w := w3.alloc (.cells #[.string ⟨#[]⟩, .int .i64 0, .int .i64 0, .int .i64 0] 42)) (vs := [.string ⟨#[]⟩, .int .i64 0, .int .i64 0, .int .i64 0]) (d := nilX) 42 (ent_on.2 rfl)
            rw [show (w3.alloc (.cells #[.string ⟨#[]⟩, .int .i64 0, .int .i64 0, .int .i64 0] 42)).heap.size = q + 1 by simp [hq]] at hsr
            have HS6 := Lib.hid hsr
            clear hsr
            have hka : Kep (fun _ => True) w3 ((w3.alloc (.cells #[.string ⟨#[]⟩, .int .i64 0, .int .i64 0, .int .i64 0] 42)).alloc (.cells #[.string ⟨#[]⟩, .int .i64 0, .int .i64 0, .int .i64 0] 42)) := (kep_alloc _ _ _).trans (kep_alloc _ _ _)
            have HG6 := Lib.hid (fz.keep (kep_alloc (fun _ => True) _ (.cells #[.string ⟨#[]⟩, .int .i64 0, .int .i64 0, .int .i64 0] 42)) trivial)
            have HB6 := Lib.hid (HB3.out.trans (hka.below (B := w.heap.size) (by omega) (fun _ _ => trivial)))
            have HV6 := Lib.hid (HV3.out.below (hka.below (B := w.heap.size) (by omega) (fun _ _ => trivial)))
            have HUQ := Lib.hid huq
            have HLEN : Hid (acc.length + 1 ≤ 262144) := Lib.hid (by have := HACC.out; omega)
            have hs6 := hka.size
            clear huq fz hka HO3 HB3 HV3 HD2 ho2 HH
            go_wp2_with (at_builtin; go_loud (refine wpList_append_x entE rfl _ _ rfl w.heap.size u7 acc rfl HO6.out (fun _ _ h => h.elim) _ [nilX] rfl HS6.out (by unfold maxLen; have := HLEN.out; simp; omega) (by have := HLEN.out; simp; omega) (by omega) ?_; intro v7 w7 ho7 hb7 hk7; obtain ⟨p7, c7, rfl, _⟩ := ho7.any.shape; have g7 := HG6.out.keep hk7 (fun e => by have := HUQ.out q e; omega); have e0 := g7.c0; have HO7 := Lib.hid ho7; have HB7 := Lib.hid (HB6.out.trans hb7); have HV7 := Lib.hid (HV6.out.below hb7); clear ho7 hb7 hk7 g7 HO6 HS6 HB6 HG6 HV6))
            rw [show (acc ++ [nilX]).length = acc.length + 1 by simp] at HO7
            go_roundw
            case rel => exact ⟨i + 1, false, [], acc ++ [nilX], _, by omega, by go_num, rfl, rfl, by simp, Lib.hid (by rw [List.length_append, HACC.out]; rfl), Lib.hid rfl, HV7, HO7, HB7⟩
            case measure => simp [intOf]; omega
          | some p2 =>
            obtain ⟨m2, l2⟩ := p2
            have hd := HD2.out
            rw [goD_head HH.out ho2] at hd
            dsimp only [Option.map_some, Option.getD_some, Option.isSome_some] at *
            have HL := HV3
            have HO := HO3
            have HB := HB3
            have hsw3 : w.heap.size ≤ w3.heap.size := by omega
            clear HV3 HO3 HB3 HD2 ho2 HH
            obtain ⟨q, hq⟩ : ∃ q, w3.heap.size = q := ⟨_, rfl⟩
            obtain ⟨wz, hwz⟩ : ∃ wz, w3.alloc (.cells #[.string ⟨#[]⟩, .int .i64 0, .int .i64 0, .int .i64 0] 42) = wz := ⟨_, rfl⟩
            have hbz : Below w3.heap.size w3 wz := by rw [← hwz]; exact (Below.refl _ _).alloc (Nat.le_refl _) _
            have hsz : wz.heap.size = q + 1 := by rw [← hwz, ← hq]; simp
            have fz : Four wz q 42 (.string ⟨#[]⟩) (.int .i64 0) (.int .i64 0) (.int .i64 0) := by rw [← hwz, ← hq]; exact four_new w3 42 _ _ _ _
            have huq : ∀ g, u7.ownBlock = some g → g < q := fun g hg => by have := (HO.out.cells hg).2.1; omega
            have he := HENT.out v3 l2 [] wz (HL.out.below (hbz.mono (by omega))) (by omega) (by simp only [List.length_nil]; omega)
            obtain ⟨oX, hoX⟩ : ∃ o, rdX [] l2 = o := ⟨_, rfl⟩
            rw [hoX] at he hd
            have HE := Lib.hid he
            have HD2 := Lib.hid hd
            have HOz := Lib.hid (HO.out.keep (kep_below (fun _ => True) hbz) (fun _ _ _ => trivial) (fun _ _ => trivial))
            have HBz := Lib.hid (HB.out.trans (hbz.mono (by omega)))
            have HFZ := Lib.hid fz
            have HSZ := Lib.hid hsz
            have HUQ := Lib.hid huq
            have HWZ := Lib.hid hwz
            clear he hd hoX hbz hsz fz huq hwz HL HO HB
            go_wp2_with fail
            rw [HWZ.out]
            refine HE.out.mono ?_
            rintro e w4 ⟨X, v4, r4, rfl, hX, hXl, hv4, hb4⟩
            have hd4 := goD_step HD2.out hX
            obtain ⟨bb, hbb⟩ : ∃ bb, oX.isSome = bb := ⟨_, rfl⟩
            rw [hbb] at hd4 ⊢
            have HXL : Hid (X.1.length ≤ 65 * (i + 1)) := Lib.hid (by simp only [List.length_nil] at hXl; omega)
            obtain ⟨X1, x2, x3, x4⟩ := X
            unfold entV
            dsimp only at *
            have HD4 := Lib.hid hd4
            have f4 := HFZ.out.below hb4 (by have := HSZ.out; omega)
            have hs4 : q + 1 ≤ w4.heap.size := by have := hb4.size; have := HSZ.out; omega
            obtain ⟨m1, m2, m3, m4, ⟨k1, k2⟩, ⟨k3, k4⟩, k5, k6⟩ := f4.all (.string ⟨X1.toArray⟩) (.int .i64 x2) (.int .i64 x3)
            obtain ⟨n1, n2, n3, n4⟩ := f4.cells
            have g4 := (((f4.s0 (.string ⟨X1.toArray⟩)).s1 (.int .i64 x2)).s2 (.int .i64 x3)).s3 (.int .i64 x4)
            obtain ⟨d0, d1, d2, d3⟩ := g4.cells
            have hk5 : Kep (fun b => b ≠ q) w4 ((((w4.setCell ⟨q, 0, none⟩ (.string ⟨X1.toArray⟩)).setCell ⟨q, 1, none⟩ (.int .i64 x2)).setCell ⟨q, 2, none⟩ (.int .i64 x3)).setCell ⟨q, 3, none⟩ (.int .i64 x4)) := (((kep_set (fun h => h rfl) _).trans (kep_set (fun h => h rfl) _)).trans (kep_set (fun h => h rfl) _)).trans (kep_set (fun h => h rfl) _)
            have HO4 := HOz.out.keep (kep_below (fun _ => True) hb4) (fun _ _ _ => trivial) (fun _ _ => trivial)
            have HO5 := HO4.keep hk5 (fun _ _ h => h.elim) (fun g hg => by have := HUQ.out g hg; omega)
            have HO6 := Lib.hid (HO5.alloc (.cells #[.string ⟨X1.toArray⟩, .int .i64 x2, .int .i64 x3, .int .i64 x4] 42))
            have hsr := src_lit (C := entC) (S := fun _ => False) (w := ((((w4.setCell ⟨q, 0, none⟩ (.string ⟨X1.toArray⟩)).setCell ⟨q, 1, none⟩ (.int .i64 x2)).setCell ⟨q, 2, none⟩ (.int .i64 x3)).setCell ⟨q, 3, none⟩ (.int .i64 x4))) (vs := [.string ⟨X1.toArray⟩, .int .i64 x2, .int .i64 x3, .int .i64 x4]) (d := (X1, (x2, (x3, x4)))) 42 (ent_on.2 rfl)
            rw [show ((((w4.setCell ⟨q, 0, none⟩ (.string ⟨X1.toArray⟩)).setCell ⟨q, 1, none⟩ (.int .i64 x2)).setCell ⟨q, 2, none⟩ (.int .i64 x3)).setCell ⟨q, 3, none⟩ (.int .i64 x4)).heap.size = w4.heap.size by simp] at hsr
            have HS6 := Lib.hid hsr
            clear hsr
            have hsq : w.heap.size ≤ q := by omega
            have hb5 : Below w.heap.size w ((((w4.setCell ⟨q, 0, none⟩ (.string ⟨X1.toArray⟩)).setCell ⟨q, 1, none⟩ (.int .i64 x2)).setCell ⟨q, 2, none⟩ (.int .i64 x3)).setCell ⟨q, 3, none⟩ (.int .i64 x4)) := (HBz.out.trans (hb4.mono (by have := HSZ.out; omega))).trans (hk5.below (B := w.heap.size) (by omega) (fun b hb => by omega))
            have hka : Kep (fun _ => True) ((((w4.setCell ⟨q, 0, none⟩ (.string ⟨X1.toArray⟩)).setCell ⟨q, 1, none⟩ (.int .i64 x2)).setCell ⟨q, 2, none⟩ (.int .i64 x3)).setCell ⟨q, 3, none⟩ (.int .i64 x4)) (((((w4.setCell ⟨q, 0, none⟩ (.string ⟨X1.toArray⟩)).setCell ⟨q, 1, none⟩ (.int .i64 x2)).setCell ⟨q, 2, none⟩ (.int .i64 x3)).setCell ⟨q, 3, none⟩ (.int .i64 x4)).alloc (.cells #[.string ⟨X1.toArray⟩, .int .i64 x2, .int .i64 x3, .int .i64 x4] 42)) := kep_alloc _ _ _
            have hs5 := hk5.size
            have HB6 := Lib.hid (hb5.trans (hka.below (B := w.heap.size) (by omega) (fun _ _ => trivial)))
            have HG6 := Lib.hid (g4.keep hka trivial)
            have HV6 := Lib.hid ((hv4.below (hk5.below (B := w.heap.size) (by omega) (fun b hb => by omega))).below (hka.below (B := w.heap.size) (by omega) (fun _ _ => trivial)))
            have hs6 := hka.size
            have HAC := HACC.out
            have hlen : acc.length + 1 ≤ 262144 := by omega
            have HLEN := Lib.hid hlen
            clear HAC hlen hX hXl hv4 hb4 hd4 hbb f4 g4 hk5 HO4 HO5 hb5 hka HE HD2 HOz HBz HFZ HWZ
            go_wp2_with (at_builtin; go_loud (refine wpList_append_x entE rfl _ _ rfl w.heap.size u7 acc rfl HO6.out (fun _ _ h => h.elim) _ [(X1, (x2, (x3, x4)))] rfl HS6.out (by unfold maxLen; have := HLEN.out; simp; omega) (by have := HLEN.out; simp; omega) (by omega) ?_; intro v7 w7 ho7 hb7 hk7; obtain ⟨p7, c7, rfl, _⟩ := ho7.any.shape; have g7 := HG6.out.keep hk7 (fun e => by have := HUQ.out q e; omega); have e0 := g7.c0; have HO7 := Lib.hid ho7; have HB7 := Lib.hid (HB6.out.trans hb7); have HV7 := Lib.hid (HV6.out.below hb7); clear ho7 hb7 hk7 g7 HO6 HS6 HB6 HG6 HV6))
            rw [show (acc ++ [(X1, (x2, (x3, x4)))]).length = acc.length + 1 by simp] at HO7
            go_roundw
            case rel => exact ⟨i + 1, bb, X1, acc ++ [(X1, (x2, (x3, x4)))], r4, by omega, by go_num, rfl, rfl, HXL.out, Lib.hid (by rw [List.length_append, HACC.out]; rfl), HD4, HV7, HO7, HB7⟩
            case measure => simp [intOf]; omega
        · have q3 : ((i : Int) % 16 == 0) = false := by rw [beq_eq_false_iff_ne]; omega
          have q5 : ((i : Int).tmod 16 == 0) = false := by rw [beq_eq_false_iff_ne, Int.tmod_eq_emod_of_nonneg (by omega)]; omega
          rw [goD_mid h16] at hd
          clear h16 HD
          obtain ⟨q, hq⟩ : ∃ q, wr.heap.size = q := ⟨_, rfl⟩
          obtain ⟨wz, hwz⟩ : ∃ wz, wr.alloc (.cells #[.string ⟨#[]⟩, .int .i64 0, .int .i64 0, .int .i64 0] 42) = wz := ⟨_, rfl⟩
          have hbz : Below wr.heap.size wr wz := by rw [← hwz]; exact (Below.refl _ _).alloc (Nat.le_refl _) _
          have hsz : wz.heap.size = q + 1 := by rw [← hwz, ← hq]; simp
          have fz : Four wz q 42 (.string ⟨#[]⟩) (.int .i64 0) (.int .i64 0) (.int .i64 0) := by rw [← hwz, ← hq]; exact four_new wr 42 _ _ _ _
          have huq : ∀ g, u7.ownBlock = some g → g < q := fun g hg => by have := (HO.out.cells hg).2.1; omega
          have he := HENT.out u5 L A wz (HL.out.below (hbz.mono (by omega))) (by omega) (by omega)
          obtain ⟨oX, hoX⟩ : ∃ o, rdX A L = o := ⟨_, rfl⟩
          rw [hoX] at he hd
          have HE := Lib.hid he
          have HD2 := Lib.hid hd
          have HOz := Lib.hid (HO.out.keep (kep_below (fun _ => True) hbz) (fun _ _ _ => trivial) (fun _ _ => trivial))
          have HBz := Lib.hid (HB.out.trans (hbz.mono (by omega)))
          have HFZ := Lib.hid fz
          have HSZ := Lib.hid hsz
          have HUQ := Lib.hid huq
          have HWZ := Lib.hid hwz
          clear he hd hoX hbz hsz fz huq hwz HL HO HB
          go_wp2_with fail
          rw [HWZ.out]
          refine HE.out.mono ?_
          rintro e w4 ⟨X, v4, r4, rfl, hX, hXl, hv4, hb4⟩
          have hd4 := goD_step HD2.out hX
          obtain ⟨bb, hbb⟩ : ∃ bb, oX.isSome = bb := ⟨_, rfl⟩
          rw [hbb] at hd4 ⊢
          have HXL : Hid (X.1.length ≤ 65 * (i + 1)) := Lib.hid (by omega)
          obtain ⟨X1, x2, x3, x4⟩ := X
          unfold entV
          dsimp only at *
          have HD4 := Lib.hid hd4
          have f4 := HFZ.out.below hb4 (by have := HSZ.out; omega)
          have hs4 : q + 1 ≤ w4.heap.size := by have := hb4.size; have := HSZ.out; omega
          obtain ⟨m1, m2, m3, m4, ⟨k1, k2⟩, ⟨k3, k4⟩, k5, k6⟩ := f4.all (.string ⟨X1.toArray⟩) (.int .i64 x2) (.int .i64 x3)
          obtain ⟨n1, n2, n3, n4⟩ := f4.cells
          have g4 := (((f4.s0 (.string ⟨X1.toArray⟩)).s1 (.int .i64 x2)).s2 (.int .i64 x3)).s3 (.int .i64 x4)
          obtain ⟨d0, d1, d2, d3⟩ := g4.cells
          have hk5 : Kep (fun b => b ≠ q) w4 ((((w4.setCell ⟨q, 0, none⟩ (.string ⟨X1.toArray⟩)).setCell ⟨q, 1, none⟩ (.int .i64 x2)).setCell ⟨q, 2, none⟩ (.int .i64 x3)).setCell ⟨q, 3, none⟩ (.int .i64 x4)) := (((kep_set (fun h => h rfl) _).trans (kep_set (fun h => h rfl) _)).trans (kep_set (fun h => h rfl) _)).trans (kep_set (fun h => h rfl) _)
          have HO4 := HOz.out.keep (kep_below (fun _ => True) hb4) (fun _ _ _ => trivial) (fun _ _ => trivial)
          have HO5 := HO4.keep hk5 (fun _ _ h => h.elim) (fun g hg => by have := HUQ.out g hg; omega)
          have HO6 := Lib.hid (HO5.alloc (.cells #[.string ⟨X1.toArray⟩, .int .i64 x2, .int .i64 x3, .int .i64 x4] 42))
          have hsr := src_lit (C := entC) (S := fun _ => False) (w := ((((w4.setCell ⟨q, 0, none⟩ (.string ⟨X1.toArray⟩)).setCell ⟨q, 1, none⟩ (.int .i64 x2)).setCell ⟨q, 2, none⟩ (.int .i64 x3)).setCell ⟨q, 3, none⟩ (.int .i64 x4))) (vs := [.string ⟨X1.toArray⟩, .int .i64 x2, .int .i64 x3, .int .i64 x4]) (d := (X1, (x2, (x3, x4)))) 42 (ent_on.2 rfl)
          rw [show ((((w4.setCell ⟨q, 0, none⟩ (.string ⟨X1.toArray⟩)).setCell ⟨q, 1, none⟩ (.int .i64 x2)).setCell ⟨q, 2, none⟩ (.int .i64 x3)).setCell ⟨q, 3, none⟩ (.int .i64 x4)).heap.size = w4.heap.size by simp] at hsr
          have HS6 := Lib.hid hsr
          clear hsr
          have hsq : w.heap.size ≤ q := by omega
          have hb5 : Below w.heap.size w ((((w4.setCell ⟨q, 0, none⟩ (.string ⟨X1.toArray⟩)).setCell ⟨q, 1, none⟩ (.int .i64 x2)).setCell ⟨q, 2, none⟩ (.int .i64 x3)).setCell ⟨q, 3, none⟩ (.int .i64 x4)) := (HBz.out.trans (hb4.mono (by have := HSZ.out; omega))).trans (hk5.below (B := w.heap.size) (by omega) (fun b hb => by omega))
          have hka : Kep (fun _ => True) ((((w4.setCell ⟨q, 0, none⟩ (.string ⟨X1.toArray⟩)).setCell ⟨q, 1, none⟩ (.int .i64 x2)).setCell ⟨q, 2, none⟩ (.int .i64 x3)).setCell ⟨q, 3, none⟩ (.int .i64 x4)) (((((w4.setCell ⟨q, 0, none⟩ (.string ⟨X1.toArray⟩)).setCell ⟨q, 1, none⟩ (.int .i64 x2)).setCell ⟨q, 2, none⟩ (.int .i64 x3)).setCell ⟨q, 3, none⟩ (.int .i64 x4)).alloc (.cells #[.string ⟨X1.toArray⟩, .int .i64 x2, .int .i64 x3, .int .i64 x4] 42)) := kep_alloc _ _ _
          have hs5 := hk5.size
          have HB6 := Lib.hid (hb5.trans (hka.below (B := w.heap.size) (by omega) (fun _ _ => trivial)))
          have HG6 := Lib.hid (g4.keep hka trivial)
          have HV6 := Lib.hid ((hv4.below (hk5.below (B := w.heap.size) (by omega) (fun b hb => by omega))).below (hka.below (B := w.heap.size) (by omega) (fun _ _ => trivial)))
          have hs6 := hka.size
          have HAC := HACC.out
          have hlen : acc.length + 1 ≤ 262144 := by omega
          have HLEN := Lib.hid hlen
          clear HAC hlen hX hXl hv4 hb4 hd4 hbb f4 g4 hk5 HO4 HO5 hb5 hka HE HD2 HOz HBz HFZ HWZ
          go_wp2_with (at_builtin; go_loud (refine wpList_append_x entE rfl _ _ rfl w.heap.size u7 acc rfl HO6.out (fun _ _ h => h.elim) _ [(X1, (x2, (x3, x4)))] rfl HS6.out (by unfold maxLen; have := HLEN.out; simp; omega) (by have := HLEN.out; simp; omega) (by omega) ?_; intro v7 w7 ho7 hb7 hk7; obtain ⟨p7, c7, rfl, _⟩ := ho7.any.shape; have g7 := HG6.out.keep hk7 (fun e => by have := HUQ.out q e; omega); have e0 := g7.c0; have HO7 := Lib.hid ho7; have HB7 := Lib.hid (HB6.out.trans hb7); have HV7 := Lib.hid (HV6.out.below hb7); clear ho7 hb7 hk7 g7 HO6 HS6 HB6 HG6 HV6))
          rw [show (acc ++ [(X1, (x2, (x3, x4)))]).length = acc.length + 1 by simp] at HO7
          go_roundw
          case rel => exact ⟨i + 1, bb, X1, acc ++ [(X1, (x2, (x3, x4)))], r4, by omega, by go_num, rfl, rfl, HXL.out, Lib.hid (by rw [List.length_append, HACC.out]; rfl), HD4, HV7, HO7, HB7⟩
          case measure => simp [intOf]; omega
      | false =>
        have hn : none = RD := HD.out
        subst hn
        have hf : FIN = none := HF.out
        subst hf
        have HB9 := Lib.hid HB.out
        clear HD HL HO HACC
        go_wp2_with fail
        go_ret2
        exact ⟨_, rfl, OwnX.nil_ _ _ _ _, HB9.out⟩
    · obtain rfl : i = n := by omega
      have q1 : decide ((i : Int) < (i : Int)) = false := by simp
      have q2 : decide (i < i) = false := by simp
      cases okb with
      | false =>
        have hn : none = RD := HD.out
        subst hn
        have hf : FIN = none := HF.out
        subst hf
        have HB9 := Lib.hid HB.out
        clear HD HL HO HACC
        go_wp2_with fail
        go_ret2
        exact ⟨_, rfl, OwnX.nil_ _ _ _ _, HB9.out⟩
      | true =>
        have hn : parseD (i - i) i A acc L = RD := HD.out
        rw [Nat.sub_self, parseD] at hn
        subst hn
        have hf : FIN = if areD acc = true ∧ encD acc = bs then some acc else none := HF.out
        have HR := Lib.hid (renc_any u7 acc wr HO.out.any)
        by_cases hA : areD acc = true
        · rw [if_pos hA, if_pos hA] at HR
          have hres : (if areD acc = true ∧ encD acc = bs then some acc else none) = (if encD acc = bs then some acc else none) := by simp [hA]
          rw [hres] at hf
          have HEL := Lib.hid (encD_len hA)
          clear HF
          generalize encD acc = E at *
          have HF := Lib.hid hf
          clear hf hA hres HL HD hlt
          go_wp2_with fail
          refine HR.out.mono ?_
          rintro e w5 ⟨v5, rfl, ho5, hb5⟩
          have c1 := BIn.conv (OwnB.brow ho5)
          have hb9 := HB.out.trans (hb5.mono HB.out.size)
          have c2 := BIn.conv (HV.out.below hb9)
          have hsl := same_list E bs
          have HB9 := Lib.hid hb9
          have HO9 := Lib.hid (HO.out.keep (kep_below (fun _ => True) hb5) (fun _ _ _ => trivial) (fun _ _ => trivial))
          clear ho5 hb5 hb9 HR HO HB
          by_cases he : E = bs
          · have q5 : (E == bs) = true := by rw [beq_iff_eq]; exact he
            have q6 : (E != bs) = false := by rw [bne_eq_false_iff_eq]; exact he
            have hd : decide (E = bs) = true := decide_eq_true he
            rw [hd] at hsl
            have hf := HF.out
            rw [if_pos he] at hf
            subst hf
            clear he
            go_wp2_with fail
            go_ret2
            exact ⟨_, rfl, HO9.out, HB9.out⟩
          · have q5 : (E == bs) = false := by rw [beq_eq_false_iff_ne]; exact he
            have q6 : (E != bs) = true := by rw [bne_iff_ne]; exact he
            have hd : decide (E = bs) = false := decide_eq_false he
            rw [hd] at hsl
            have hf := HF.out
            rw [if_neg he] at hf
            subst hf
            clear he
            go_wp2_with fail
            go_ret2
            exact ⟨_, rfl, OwnX.nil_ _ _ _ _, HB9.out⟩
        · rw [if_neg hA, if_neg hA] at HR
          have hres : (if areD acc = true ∧ encD acc = bs then some acc else none) = none := by simp [hA]
          rw [hres] at hf
          subst hf
          clear hA hres HL HD hlt
          go_wp2_with fail
          refine HR.out.mono ?_
          rintro e w5 ⟨v5, rfl, ho5, hb5⟩
          have HB9 := Lib.hid (HB.out.trans (hb5.mono HB.out.size))
          clear ho5 hb5 HR HO HB
          go_wp2_with fail
          go_ret2
          exact ⟨_, rfl, OwnX.nil_ _ _ _ _, HB9.out⟩
end Go.Proofs.Ytklngjnjnkocmaa.DT
