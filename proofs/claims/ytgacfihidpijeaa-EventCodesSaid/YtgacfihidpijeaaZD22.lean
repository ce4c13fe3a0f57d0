/-
  The batch of any bytes: the reference's Decode. No condition. From the rows' readings to what the walks ask: slices of bytes and of whole numbers that came in. No condition. From the rows' readings to codecs: what is read as data of a type lies as the type's codec says. No program; no condition. Arguments that are events, batches: read as data, they lie as the codecs say. No condition. A batch as an argument: read as data, it lies as its codec says. No condition. EventCodes, walked. No condition. The law EventCodes returns true for every input: the bytes of any batch, and the batch of any bytes, the code tells as the reference does. No condition.
-/
import Derived.Test.YtgacfihidpijeaaZD21
import Derived.Test.YtgacfihidpijeaaRows
import Derived.Test.YtgacfihidpijeaaZD1
import Derived.ProofKit
import Derived.OpenShut
import Derived.ShutString
import Derived.ChangeOld
import Derived.Test.YtgacfihidpijeaaZD2
import Derived.ChangeArms
import Derived.ChangeSame
import Derived.Deep.Slices
import Derived.Test.YtgacfihidpijeaaZD4
import Derived.Test.YtgacfihidpijeaaZD14
import Derived.Test.YtgacfihidpijeaaZD15
import Derived.Test.YtgacfihidpijeaaZD16
import Derived.Test.YtgacfihidpijeaaZD18
set_option linter.unusedVariables false
namespace Go.Proofs.Ytgacfihidpijeaa.EV
open Go Go.RowKit Go.Proofs.Ytgacfihidpijeaa.MM Go.Proofs.Ytgacfihidpijeaa.EM Go.Proofs.Ytgacfihidpijeaa.VM

theorem dec_e1 {l : List UInt8} (h : (getL l).2.2 ≠ 0 ∨ 1099511627776 < (getL l).1) : decB l = none := by
  unfold decB rdB
  rw [if_pos h]
theorem dec_e2 {l : List UInt8} (h1 : ¬ ((getL l).2.2 ≠ 0 ∨ 1099511627776 < (getL l).1)) (h : (getL (l.drop (getL l).2.1)).2.2 ≠ 0 ∨ 64 < (getL (l.drop (getL l).2.1)).1) : decB l = none := by
  unfold decB rdB
  rw [if_neg h1, if_pos h]
/-- What is told once the events are got, or are not. -/
def endB (n : Int) : Option (List Ev × List UInt8) → Option Bat
  | none => none
  | some (es, r) => if 0 < r.length ∨ checkB (n, es) ≠ 0 then none else some (n, es)
theorem dec_e3 {l : List UInt8} (h1 : ¬ ((getL l).2.2 ≠ 0 ∨ 1099511627776 < (getL l).1)) (h : ¬ ((getL (l.drop (getL l).2.1)).2.2 ≠ 0 ∨ 64 < (getL (l.drop (getL l).2.1)).1)) :
    decB l = endB ((getL l).1 : Nat) (getBa (getL (l.drop (getL l).2.1)).1 [] ((l.drop (getL l).2.1).drop (getL (l.drop (getL l).2.1)).2.1)) := by
  unfold decB rdB
  rw [if_neg h1, if_neg h]
  cases getBa (getL (l.drop (getL l).2.1)).1 [] ((l.drop (getL l).2.1).drop (getL (l.drop (getL l).2.1)).2.1) with
  | none => rfl
  | some p => obtain ⟨es, r⟩ := p; rfl
/-- What Get tells of what stands first: an error, or an event and the way on. -/
theorem getBa_cases (k : Nat) (acc : List Ev) (l : List UInt8) : (∃ er, (getR l).2.2 = er ∧ er ≠ 0 ∧ getBa (k + 1) acc l = none) ∨ ((getR l).2.2 = 0 ∧ getBa (k + 1) acc l = getBa k (acc ++ [(getR l).1]) (getR l).2.1) := by
  rw [getBa]
  cases h : getE l with
  | none => exact .inl ⟨100, by rw [getR_none h], by omega, rfl⟩
  | some p =>
    obtain ⟨e, r⟩ := p
    rw [getR_some h]
    exact .inr ⟨rfl, rfl⟩

set_option maxRecDepth 100000 in
set_option maxHeartbeats 4000000 in
theorem rdec_in (B : Nat) (v : Value) (l : List UInt8) (w : World) (hv : BIn B w v l) (hB : B ≤ w.heap.size) : Calls Try.prog 34 #[v] w (DecLeft (decR l) w) := by
  obtain ⟨R, hR⟩ : ∃ R, w.heap.size = R := ⟨_, rfl⟩
  obtain ⟨wa, hwa⟩ : ∃ wa, w.alloc (.cells #[.int .i64 0, .slice none 0 0] 34) = wa := ⟨_, rfl⟩
  have hba : Below w.heap.size w wa := by rw [← hwa]; exact (Below.refl _ _).alloc (Nat.le_refl _) _
  have hsa : wa.heap.size = R + 1 := by rw [← hwa, ← hR]; simp
  have t0 : Two wa R 34 (.int .i64 0) (.slice none 0 0) := by rw [← hwa, ← hR]; exact two_new w 34 _ _
  have hva : BIn B wa v l := hv.below (hba.mono hB)
  have HG := Lib.hid (VG.rget_in B v l wa hva (by omega))
  have HNUM := Lib.hid (fun v l W (h : BIn B W v l) (hb : B ≤ W.heap.size) => VG.rget_in B v l W h hb)
  have HFAIL : Hid (∀ W a b, Two W R 34 a b → Below w.heap.size w W → decB l = none →
      DecLeft (decR l) w (.returned (.tuple #[.agg #[.int .i64 0, .slice none 0 0], .int .i64 100])) ((W.setCell ⟨R, 0, none⟩ (.int .i64 0)).setCell ⟨R, 1, none⟩ (.slice none 0 0))) := Lib.hid (fun W a b ht hb hn => by
    rw [decR_none hn]
    exact ⟨_, rfl, ROn.nil_ _ _, hb.trans ((kep_set01 (.int .i64 0) (.slice none 0 0)).below (B := w.heap.size) (by have := ht.lt; omega) (fun k hk => by omega))⟩)
  have HE1 := Lib.hid (@dec_e1 l)
  have HE2 := Lib.hid (@dec_e2 l)
  have HE3 := Lib.hid (@dec_e3 l)
  have T0 := Lib.hid t0
  have HBA := Lib.hid hba
  have HWA := Lib.hid hwa
  have hrl : (getL l).2.2 = 0 → VG.restL l = l.drop (getL l).2.1 := fun h => by unfold VG.restL; exact if_pos h
  have HRL := Lib.hid hrl
  have hnb := (getL_bounds l).1
  generalize (getL l).1 = n at *
  generalize (getL l).2.2 = er1 at *
  generalize l.drop (getL l).2.1 = d1 at *
  generalize VG.restL l = l1 at *
  clear hv hba hwa t0 hva hrl
  go_enter Try.func34, Try.ntmps34
  go_wp2_with fail
  rw [HWA.out]
  refine HG.out.mono ?_
  rintro e w1 ⟨v1, rfl, hv1, hb1⟩
  have hs1 := hb1.size
  have ht1 := T0.out.below hb1 (by omega)
  have HT1 := Lib.hid ht1
  have HB1 := Lib.hid (HBA.out.trans (hb1.mono HBA.out.size))
  have HV1 := Lib.hid hv1
  clear hb1 hv1 HG T0 HBA HWA ht1
  by_cases hz1 : er1 ≠ 0 ∨ 1099511627776 < n
  · have HQ := Lib.hid (HFAIL.out w1 _ _ HT1.out HB1.out (HE1.out hz1))
    have HX := Lib.hid (HT1.out.s01 (.int .i64 0) (.slice none 0 0))
    obtain ⟨_, _, b2, b3, b4, b5⟩ := HT1.out.all (.int .i64 0)
    by_cases hz3 : er1 = 0
    · have t2 : (er1 != 0) = false := by rw [bne_eq_false_iff_eq]; exact hz3
      have t3 : decide ((n : Int) > 1099511627776) = true := decide_eq_true (by omega)
      clear HFAIL HE1 HE2 HE3 HRL HNUM hz1
      go_wp2_with fail
      refine bodyPost_ret (results_box2 (p := 2) (u := 3) rfl Try.underlying34 rfl infoBat2 _ _ R _ _ rfl HX.out) rfl HQ.out
    · have t2 : (er1 != 0) = true := by rw [bne_iff_ne]; exact hz3
      clear HFAIL HE1 HE2 HE3 HRL HNUM hz1
      go_wp2_with fail
      refine bodyPost_ret (results_box2 (p := 2) (u := 3) rfl Try.underlying34 rfl infoBat2 _ _ R _ _ rfl HX.out) rfl HQ.out
  · have he2 := HE2.out hz1
    have he3 := HE3.out hz1
    have hz2 : er1 = 0 := Classical.byContradiction fun h => hz1 (.inl h)
    have hn40 : n ≤ 1099511627776 := Nat.not_lt.1 fun h => hz1 (.inr h)
    subst hz2
    have hl1 := HRL.out rfl
    subst hl1
    have t3 : decide ((n : Int) > 1099511627776) = false := decide_eq_false (by omega)
    have t4 : IntKind.i64.wrap (n : Int) = (n : Int) := by rw [IntKind.wrap_i64]; omega
    have HK2 := Lib.hid (HNUM.out v1 l1 w1 HV1.out (by omega))
    have hrl2 : (getL l1).2.2 = 0 → VG.restL l1 = l1.drop (getL l1).2.1 := fun h => by unfold VG.restL; exact if_pos h
    have hnb2 := (getL_bounds l1).1
    generalize (getL l1).1 = m at *
    generalize (getL l1).2.2 = er2 at *
    generalize l1.drop (getL l1).2.1 = d2 at *
    generalize VG.restL l1 = l2 at *
    have HE2' := Lib.hid he2
    have HE3' := Lib.hid he3
    have HRL2 := Lib.hid hrl2
    clear he2 he3 hrl2 HE1 HE2 HE3 HRL HNUM hz1
    go_wp2_with fail
    refine HK2.out.mono ?_
    rintro e w2 ⟨v2, rfl, hv2, hb2⟩
    have hs2 := hb2.size
    have HT2 := Lib.hid (HT1.out.below hb2 HT1.out.lt)
    have HB2 := Lib.hid (HB1.out.trans (hb2.mono (by have := HB1.out.size; omega)))
    have HV2 := Lib.hid hv2
    clear hb2 hv2 HK2 HT1 HB1 HV1
    by_cases hz2 : er2 ≠ 0 ∨ 64 < m
    · have HQ := Lib.hid (HFAIL.out w2 _ _ HT2.out HB2.out (HE2'.out hz2))
      have HX := Lib.hid (HT2.out.s01 (.int .i64 0) (.slice none 0 0))
      obtain ⟨_, _, b2, b3, b4, b5⟩ := HT2.out.all (.int .i64 0)
      by_cases hz3 : er2 = 0
      · have t5 : (er2 != 0) = false := by rw [bne_eq_false_iff_eq]; exact hz3
        have t6 : decide ((m : Int) > 64) = true := decide_eq_true (by omega)
        clear HFAIL HE2' HE3' HRL2 hz2
        go_wp2_with fail
        refine bodyPost_ret (results_box2 (p := 2) (u := 3) rfl Try.underlying34 rfl infoBat2 _ _ R _ _ rfl HX.out) rfl HQ.out
      · have t5 : (er2 != 0) = true := by rw [bne_iff_ne]; exact hz3
        clear HFAIL HE2' HE3' HRL2 hz2
        go_wp2_with fail
        refine bodyPost_ret (results_box2 (p := 2) (u := 3) rfl Try.underlying34 rfl infoBat2 _ _ R _ _ rfl HX.out) rfl HQ.out
    · have he3 := HE3'.out hz2
      have hz3 : er2 = 0 := Classical.byContradiction fun h => hz2 (.inl h)
      have hm64 : m ≤ 64 := Nat.not_lt.1 fun h => hz2 (.inr h)
      subst hz3
      have hl2 := HRL2.out rfl
      subst hl2
      have t6 : decide ((m : Int) > 64) = false := decide_eq_false (by omega)
      have t7 : IntKind.i64.wrap (m : Int) = (m : Int) := by rw [IntKind.wrap_i64]; omega
      obtain ⟨A, hA⟩ : ∃ A, getBa m [] l2 = A := ⟨_, rfl⟩
      have HGA : Hid (decB l = endB (n : Int) A) := Lib.hid (by rw [he3, hA])
      have HA3 : Hid (getBa (m - 0) [] l2 = A) := Lib.hid hA
      obtain ⟨q, hq⟩ : ∃ q, w2.heap.size = q := ⟨_, rfl⟩
      have hqR : R < q := by have := HT2.out.lt; omega
      have hbq : Below w2.heap.size w2 (w2.alloc (.cells #[.int .i64 (n : Int), .slice none 0 0] 34)) := (Below.refl _ _).alloc (Nat.le_refl _) _
      have hsq : (w2.alloc (.cells #[.int .i64 (n : Int), .slice none 0 0] 34)).heap.size = q + 1 := by simp [hq]
      have HX3 : Hid (Two (w2.alloc (.cells #[.int .i64 (n : Int), .slice none 0 0] 34)) q 34 (.int .i64 (n : Int)) (.slice none 0 0)) := Lib.hid (by rw [← hq]; exact two_new w2 34 _ _)
      have HT3 := Lib.hid (HT2.out.below hbq HT2.out.lt)
      have HB3 := Lib.hid (HB2.out.trans (hbq.mono HB2.out.size))
      have HV3 := Lib.hid (HV2.out.below (hbq.mono (by omega)))
      have HO3 := Lib.hid (OwnX.nil_ (C := evC) 24 (q + 1) (fun _ => False) (w2.alloc (.cells #[.int .i64 (n : Int), .slice none 0 0] 34)))
      have HS3 : Hid (∀ b, (fun _ => False) b → q < b ∧ IsF (w2.alloc (.cells #[.int .i64 (n : Int), .slice none 0 0] 34)) b) := Lib.hid (fun _ h => h.elim)
      clear he3 HE2' HE3' HRL2 hz2 hA hbq HT2 HB2 HV2
      go_wp2_with fail
      go_loopw [8, 11] (fun bv iv wr => ∃ (i : Nat) (es : List Ev) (li : List UInt8) (u : Value) (S : Nat → Prop), i ≤ m ∧ iv = .int .i64 i ∧ es.length = i ∧ Hid (getBa (m - i) es li = A) ∧ Hid (BIn B wr bv li) ∧ Hid (OwnX evC 24 (q + 1) S wr u es) ∧ Hid (∀ b, S b → q < b ∧ IsF wr b) ∧ Hid (Two wr q 34 (.int .i64 (n : Int)) u) ∧ Hid (Two wr R 34 (.int .i64 0) (.slice none 0 0)) ∧ Hid (Below w.heap.size w wr)) (fun _ iv _ => m - (intOf iv).toNat)
      case atStart => exact ⟨0, [], l2, _, _, by omega, rfl, rfl, HA3, HV3, HO3, HS3, HX3, HT3, HB3⟩
      case round =>
        obtain ⟨i, es, li, u, S, hi, rfl, hel, HA, HV, HO, HS, HX, HT, HBk⟩ := hrel
        clear HA3 HV3 HO3 HS3 HX3 HT3 HB3
        have hqw := HX.out.lt
        have hszk := HBk.out.size
        by_cases hlt : i < m
        · have q1 : decide ((i : Int) < (m : Int)) = true := by rw [decide_eq_true_eq]; omega
          have HGE := Lib.hid (rget_in B u8 li wr HV.out (by omega))
          have hcs := getBa_cases (m - (i + 1)) es li
          have hAi := HA.out
          rw [show m - i = m - (i + 1) + 1 by omega] at hAi
          rw [hAi] at hcs
          obtain ⟨⟨⟨z, fs⟩, l4, er⟩, hG⟩ : ∃ G, getR li = G := ⟨_, rfl⟩
          rw [hG] at hcs HGE
          dsimp only at hcs
          have HCS := Lib.hid hcs
          have HLT := Lib.hid hlt
          clear hcs hAi HA hlt hG HV
          go_wp2_with fail
          refine HGE.out.mono ?_
          rintro e w5 ⟨ue, v5, rfl, hue, hv5, hb5⟩
          dsimp only at hue hv5 ⊢
          obtain ⟨pe, ce, rfl, _⟩ := hue.shape
          have hs5 := hb5.size
          obtain ⟨g5, hg5⟩ : ∃ g5, w5.heap.size = g5 := ⟨_, rfl⟩
          obtain ⟨w6, hw6⟩ : ∃ w6, w5.alloc (.cells #[.int .i64 z, .slice pe fs.length ce] 24) = w6 := ⟨_, rfl⟩
          have hba : Below w5.heap.size w5 w6 := by rw [← hw6]; exact (Below.refl _ _).alloc (Nat.le_refl _) _
          have hs6 : w6.heap.size = g5 + 1 := by rw [← hw6, ← hg5]; simp
          have x6 : Two w6 g5 24 (.int .i64 z) (.slice pe fs.length ce) := by rw [← hw6, ← hg5]; exact two_new w5 24 _ _
          have h06 : Below wr.heap.size wr w6 := hb5.trans (hba.mono hs5)
          have HV6 := Lib.hid (hv5.below (hba.mono (by omega)))
          have HE6 := Lib.hid (ROn.keep hue (kep_below _ hba) fun _ _ h => h)
          have HX6 := Lib.hid (HX.out.below h06 hqw)
          have HT6 := Lib.hid (HT.out.below h06 HT.out.lt)
          have HB6 := Lib.hid (HBk.out.trans (h06.mono hszk))
          have ho6 := HO.out.keep (kep_below (fun _ => True) h06) (fun _ _ _ => trivial) (fun _ _ => trivial)
          have HO6 := Lib.hid (ho6.weak (T := fun b => S b ∨ NewF wr w5 b) (fun b _ hb => .inl hb))
          have HS6 : Hid (∀ b, (S b ∨ NewF wr w5 b) → q < b ∧ IsF w6 b) := Lib.hid (fun b hb => hb.elim (fun h => ⟨(HS.out b h).1, (HS.out b h).2.keep (kep_below (fun _ => True) h06) trivial⟩) (fun h => ⟨by have := h.1; omega, h.2.keep (kep_below (fun _ => True) hba) trivial⟩))
          have HW6 := Lib.hid hw6
          have HN6 := Lib.hid x6
          have m0 := x6.c0
          have m1 := x6.c1
          rw [← hw6] at m0 m1
          have y1 := HX6.out.c1
          rw [← hw6] at y1
          have HSH := Lib.hid hue
          clear hb5 hba hv5 x6 h06 ho6 HX HT HBk HO HS HGE hue hw6
          rcases HCS.out with ⟨er', rfl, hne, hAn⟩ | ⟨rfl, hAn⟩
          · have t8 : (er != 0) = true := by rw [bne_iff_ne]; exact hne
            have HQ := Lib.hid (HFAIL.out w6 _ _ HT6.out HB6.out (by rw [HGA.out, hAn]; rfl))
            have HXr := Lib.hid (HT6.out.s01 (.int .i64 0) (.slice none 0 0))
            obtain ⟨b0, b1, b2, b3, b4, b5⟩ := HT6.out.all (.int .i64 0)
            rw [← HW6.out] at HQ HXr b0 b1 b2 b3 b4 b5
            clear HFAIL HCS hAn
            go_wp2_with fail
            refine bodyPost_ret (results_box2 (p := 2) (u := 3) rfl Try.underlying34 rfl infoBat2 _ _ R _ _ rfl HXr.out) rfl HQ.out
          · have HAn := Lib.hid hAn
            have HON := Lib.hid (show evC.on (fun b => S b ∨ NewF wr w5 b) w6 [.int .i64 z, .slice pe fs.length ce] (z, fs) from ev_on.2 ⟨_, rfl, HE6.out.weak fun b _ hb => .inr hb⟩)
            have HS7 := Lib.hid (src_lit (C := evC) (S := fun b => S b ∨ NewF wr w5 b) (w := w6) (vs := [.int .i64 z, .slice pe fs.length ce]) (d := (z, fs)) 24 HON.out)
            have HO7 := Lib.hid (HO6.out.alloc (.cells #[.int .i64 z, .slice pe fs.length ce] 24))
            have hka : Kep (fun _ => True) w6 (w6.alloc (.cells #[.int .i64 z, .slice pe fs.length ce] 24)) := kep_alloc _ _ _
            have HSS7 : Hid (∀ b, (S b ∨ NewF wr w5 b) → q < b ∧ IsF (w6.alloc (.cells #[.int .i64 z, .slice pe fs.length ce] 24)) b) := Lib.hid (fun b hb => ⟨(HS6.out b hb).1, (HS6.out b hb).2.keep hka trivial⟩)
            have HX7 := Lib.hid (HX6.out.keep hka trivial)
            have HT7 := Lib.hid (HT6.out.keep hka trivial)
            have HB7 := Lib.hid (HB6.out.trans (hka.below (B := w.heap.size) (by have := HB6.out.size; omega) (fun _ _ => trivial)))
            have HV7 := Lib.hid (HV6.out.below (hka.below (B := B) (by omega) (fun _ _ => trivial)))
            have hub : u.ownBlock ≠ some q := fun e => by have := (HO6.out.cells e).1; omega
            have huR : u.ownBlock ≠ some R := fun e => by have := (HO6.out.cells e).1; omega
            have HLO := Lib.hid (fun k (h : u.ownBlock = some k) => (HO6.out.cells h).1)
            rw [hs6] at HS7
            rw [← HW6.out] at HS7 HO7 HSS7 HX7 HT7 HB7 HV7
            clear HCS hAn hka HX6 HT6 HB6 HV6 HO6 HS6 HE6 HON
            go_wp2_with (at_builtin; go_loud (refine wpList_append_x evE rfl _ _ rfl (q + 1) u es rfl HO7.out (fun b _ hb => isF_apt (HSS7.out b hb).2) _ [(z, fs)] rfl HS7.out (by unfold maxLen; simp; omega) (by simp; omega) (by simp; omega) ?_; intro v8 w8 ho8 hb8 hk8; obtain ⟨p8, c8, rfl, _⟩ := ho8.any.shape; have x8 := HX7.out.keep hk8 hub; obtain ⟨k0, k2, k3, k4, _, _⟩ := x8.all (.int .i64 (n : Int)); have HO8 := Lib.hid ho8; have HX8 := Lib.hid x8; have HT8 := Lib.hid (HT7.out.keep hk8 huR); have HV8 := Lib.hid (HV7.out.below (hk8.below (B := B) (by simp; omega) (fun k hk e => by have := HLO.out k e; omega))); have HB8 := Lib.hid (HB7.out.trans (hk8.below (B := w.heap.size) (by simp; omega) (fun k hk e => by have := HLO.out k e; omega))); have HS8 : Hid (∀ b, (S b ∨ NewF wr w5 b) → q < b ∧ IsF w8 b) := Lib.hid (fun b hb => ⟨(HSS7.out b hb).1, (HSS7.out b hb).2.keep hk8 (isF_own HO7.out (HSS7.out b hb).2)⟩); have hs8 := hk8.size; clear ho8 hb8 hk8 x8 HO7 HS7 HX7 HT7 HB7 HV7 HSS7))
            have hl9 : (es ++ [(z, fs)]).length = i + 1 := by rw [List.length_append, hel]; rfl
            have hkb : Kep (fun b => b ≠ q) w8 (w8.setCell ⟨q, 1, none⟩ (.slice p8 (es ++ [(z, fs)]).length c8)) := kep_set0 _
            have HO9 := Lib.hid (HO8.out.keep hkb (fun b _ hb => by have := (HS8.out b hb).1; omega) (fun k hk => by have := (HO8.out.cells hk).1; omega))
            have HX9 := Lib.hid (HX8.out.s1 (.slice p8 (es ++ [(z, fs)]).length c8))
            have HT9 := Lib.hid (HT8.out.keep hkb (by omega))
            have HV9 := Lib.hid (HV8.out.below (hkb.below (B := B) (by have := HX8.out.lt; omega) (fun k hk => by omega)))
            have HB9 := Lib.hid (HB8.out.trans (hkb.below (B := w.heap.size) (by have := HX8.out.lt; omega) (fun k hk => by omega)))
            have HS9 : Hid (∀ b, (S b ∨ NewF wr w5 b) → q < b ∧ IsF (w8.setCell ⟨q, 1, none⟩ (.slice p8 (es ++ [(z, fs)]).length c8)) b) := Lib.hid (fun b hb => ⟨(HS8.out b hb).1, (HS8.out b hb).2.keep hkb (by have := (HS8.out b hb).1; omega)⟩)
            rw [hl9] at HO9 HX9 HT9 HV9 HB9 HS9
            clear hkb HO8 HX8 HT8 HV8 HB8 HS8
            have hlt := HLT.out
            go_roundw
            case rel => exact ⟨i + 1, es ++ [(z, fs)], _, _, _, by omega, by go_num, hl9, Lib.hid HAn.out.symm, HV9, HO9, HS9, HX9, HT9, HB9⟩
            case measure => simp [intOf]; omega
        · obtain rfl : i = m := by omega
          have q1 : decide ((i : Int) < (i : Int)) = false := by simp
          have hAi := HA.out
          rw [Nat.sub_self, getBa] at hAi
          obtain ⟨pl, cl, rfl, _⟩ := HV.out.shape
          have k0 := HX.out.c0
          have k1 := HX.out.c1
          obtain ⟨pu, cu, hpu, _⟩ := (OwnX.any HO.out).shape
          have HU := Lib.hid (HO.out.ron (T := fun b => b ≠ R) (fun k hk => by have := (HO.out.cells hk).1; omega) (fun b _ hb => by have := (HS.out b hb).1; omega))
          have HCK := Lib.hid (rcbatch_any (n : Int) u es wr HU.out.any)
          obtain ⟨c, hc⟩ : ∃ c, checkB ((n : Int), es) = c := ⟨_, rfl⟩
          rw [hc] at HCK
          have HGE : Hid (decB l = if 0 < li.length ∨ c ≠ 0 then none else some ((n : Int), es)) := Lib.hid (by rw [HGA.out, ← hAi]; unfold endB; dsimp only; rw [hc])
          subst hpu
          rw [hel] at HCK HU
          have HXR := Lib.hid (HT.out.s01 (.int .i64 0) (.slice none 0 0))
          obtain ⟨_, _, b2, b3, b4, b5⟩ := HT.out.all (.int .i64 0)
          clear hAi HA hlt hc HGA HO HS HV
          by_cases hl0 : 0 < li.length
          · have t8 : decide ((li.length : Int) > 0) = true := decide_eq_true (by omega)
            have HQ := Lib.hid (HFAIL.out wr _ _ HT.out HBk.out (by rw [HGE.out, if_pos (.inl hl0)]))
            clear HFAIL HGE HCK HU HX HT
            go_wp2_with fail
            refine bodyPost_ret (results_box2 (p := 2) (u := 3) rfl Try.underlying34 rfl infoBat2 _ _ R _ _ rfl HXR.out) rfl HQ.out
          · have t8 : decide ((li.length : Int) > 0) = false := decide_eq_false (by omega)
            clear HXR b2 b3 b4 b5
            go_wp2_with fail
            refine HCK.out.mono ?_
            rintro e w10 ⟨rfl, hb10⟩
            have HT10 := Lib.hid (HT.out.below hb10 HT.out.lt)
            have HX10 := Lib.hid (HX.out.below hb10 HX.out.lt)
            have HB10 := Lib.hid (HBk.out.trans (hb10.mono HBk.out.size))
            have HU10 := Lib.hid (ROn.keep HU.out (kep_below _ hb10) fun _ _ h => h)
            obtain ⟨_, _, b2, b3, b4, b5⟩ := HT10.out.all (.int .i64 0)
            obtain ⟨_, _, _, _, c4, c5⟩ := HT10.out.all (.int .i64 (n : Int))
            clear hb10 HCK HU HX HT HBk k0 k1
            by_cases h0 : c = 0
            · subst h0
              have hdr := decR_some (HGE.out.trans (if_neg (fun h => h.elim hl0 (fun h => h rfl))))
              have k0 := HX10.out.c0
              have k1 := HX10.out.c1
              rw [hel] at k1
              have HX := Lib.hid (HT10.out.s01 (.int .i64 (n : Int)) (.slice pu i cu))
              have hk5 : Kep (fun b => b ≠ R) w10 ((w10.setCell ⟨R, 0, none⟩ (.int .i64 (n : Int))).setCell ⟨R, 1, none⟩ (.slice pu i cu)) := kep_set01 _ _
              have HQ : Hid (DecLeft (decR l) w (.returned (.tuple #[.agg #[.int .i64 (n : Int), .slice pu i cu], .int .i64 0])) ((w10.setCell ⟨R, 0, none⟩ (.int .i64 (n : Int))).setCell ⟨R, 1, none⟩ (.slice pu i cu))) := Lib.hid (by
                rw [hdr]
                refine ⟨_, rfl, ROn.any (HU10.out.keep hk5 fun _ _ h => h), ?_⟩
                exact HB10.out.trans (hk5.below (B := w.heap.size) (by have := HT10.out.lt; omega) (fun k hk => by omega)))
              clear hdr hk5 HFAIL HGE HU10 HX10 HT10 HB10
              go_wp2_with fail
              refine bodyPost_ret (results_box2 (p := 2) (u := 3) rfl Try.underlying34 rfl infoBat2 _ _ R _ _ rfl HX.out) rfl HQ.out
            · have t9 : (c != 0) = true := by rw [bne_iff_ne]; exact h0
              have HQ := Lib.hid (HFAIL.out w10 _ _ HT10.out HB10.out (by rw [HGE.out, if_pos (.inr h0)]))
              have HX := Lib.hid (HT10.out.s01 (.int .i64 0) (.slice none 0 0))
              clear HFAIL HGE HU10 HX10 HT10 HB10
              go_wp2_with fail
              refine bodyPost_ret (results_box2 (p := 2) (u := 3) rfl Try.underlying34 rfl infoBat2 _ _ R _ _ rfl HX.out) rfl HQ.out
end Go.Proofs.Ytgacfihidpijeaa.EV
set_option linter.unusedVariables false
namespace Go.Proofs.Ytgacfihidpijeaa.MM
open Go.ChangeShapes Go.WideShapes Go.ChangeAt Go.RowKit Go.Proofs

theorem own : ownKnob Try.prog.godebug = none := by kernel_rfl
theorem laidOut : laidOutB Try.prog = true := by kernel_rfl

theorem cell_lt {w : World} {b o : Nat} {v : Value} (h : w.cell? ⟨b, o, none⟩ = some v) : b < w.heap.size := by
  by_cases hb : b < w.heap.size
  · exact hb
  · simp [World.cell?, Array.getElem?_eq_none (Nat.le_of_not_lt hb)] at h

/-- Cells behind an address read as a row. -/
theorem row_of_cells {W : World} {a : Addr} {len cap : Nat} {xs : List Value} (hl : xs.length = len) (hlc : len ≤ cap) (hcm : cap ≤ maxLen) (hc : ∀ i u, xs[i]? = some u → W.cell? (a.add i) = some u) : Row W (.slice (some a) len cap) xs := by
  subst hl
  refine ⟨some a, cap, rfl, hlc, hcm, (fun h => by cases h), ?_⟩
  cases xs with
  | nil => exact .inl rfl
  | cons x xs =>
    right
    obtain ⟨b, off, spot⟩ := a
    have hc0 := hc 0 x rfl
    have hspot : spot = none := by simpa [Addr.add] using World.cell?_spot hc0
    subst hspot
    refine ⟨b, off, rfl, cell_lt (o := off) (v := x) (by simpa [Addr.add] using hc0), fun i u hi => ?_⟩
    rw [← add_at]
    exact hc i u hi

theorem u64_of_wf {x : Int} (h : (Lit.int .u64 x).wf = true) : ∃ n : Nat, x = (n : Int) ∧ n < 18446744073709551616 := by
  simp only [Lit.wf, Bool.and_eq_true, decide_eq_true_eq] at h
  have h1 : IntKind.u64.min = 0 := by decide
  have h2 : IntKind.u64.max = 18446744073709551615 := by decide
  rw [h1, h2] at h
  exact ⟨x.toNat, by omega, by omega⟩
theorem u32_of_wf {x : Int} (h : (Lit.int .u32 x).wf = true) : ∃ n : Nat, x = (n : Int) ∧ n < 4294967296 := by
  simp only [Lit.wf, Bool.and_eq_true, decide_eq_true_eq] at h
  have h1 : IntKind.u32.min = 0 := by decide
  have h2 : IntKind.u32.max = 4294967295 := by decide
  rw [h1, h2] at h
  exact ⟨x.toNat, by omega, by omega⟩
theorem u16_of_wf {x : Int} (h : (Lit.int .u16 x).wf = true) : ∃ n : Nat, x = (n : Int) ∧ n < 65536 := by
  simp only [Lit.wf, Bool.and_eq_true, decide_eq_true_eq] at h
  have h1 : IntKind.u16.min = 0 := by decide
  have h2 : IntKind.u16.max = 65535 := by decide
  rw [h1, h2] at h
  exact ⟨x.toNat, by omega, by omega⟩
theorem u8nat_of_wf {x : Int} (h : (Lit.int .u8 x).wf = true) : ∃ n : Nat, x = (n : Int) ∧ n < 256 := by
  simp only [Lit.wf, Bool.and_eq_true, decide_eq_true_eq] at h
  have h1 : IntKind.u8.min = 0 := by decide
  have h2 : IntKind.u8.max = 255 := by decide
  rw [h1, h2] at h
  exact ⟨x.toNat, by omega, by omega⟩
theorem u8_of_wf {x : Int} (h : (Lit.int .u8 x).wf = true) : 0 ≤ x ∧ x < 256 := by
  simp only [Lit.wf, Bool.and_eq_true, decide_eq_true_eq] at h
  have h1 : IntKind.u8.min = 0 := by decide
  have h2 : IntKind.u8.max = 255 := by decide
  rw [h1, h2] at h
  omega
theorem i64_of_wf {x : Int} (h : (Lit.int .i64 x).wf = true) : -9223372036854775808 ≤ x ∧ x ≤ 9223372036854775807 := by
  simp only [Lit.wf, Bool.and_eq_true, decide_eq_true_eq] at h
  have h1 : IntKind.i64.min = -9223372036854775808 := by decide
  have h2 : IntKind.i64.max = 9223372036854775807 := by decide
  rw [h1, h2] at h
  exact h

/-- A slice of bytes that came in. -/
theorem argBytes {H : Type} {enc : TypeId × Value → H} {W : World} {base : Nat} {T e : TypeId} {a : Option Addr} {len cap : Nat} {d : DataW H} {p : List MemPlace}
    (ht : Try.prog.underlying T = some (.slice e)) (he : Try.prog.underlying e = some (.int .u8)) (hc : Try.prog.cellsOf e = 1)
    (h : ∃ fuel, DataW.trod enc Try.prog W base (fun _ => true) true fuel T (Value.slice a len cap).cells.toList = some (d, p)) : ∃ l, BRow W (.slice a len cap) l := by
  obtain ⟨fuel, hf⟩ := h
  rcases open_ints ht he hc hf with ⟨hcs, _⟩ | ⟨x, n, c, zs, hcs, _, hl, hm, hz, _, hcell, hwz⟩
  · simp [Value.cells] at hcs
    obtain ⟨rfl, rfl, rfl⟩ := hcs
    exact ⟨[], BRow.nil_ W⟩
  · simp [Value.cells] at hcs
    obtain ⟨rfl, rfl, rfl⟩ := hcs
    have hzl : zs.length = cap := by simpa using hz
    refine ⟨(zs.take len).map (fun z => UInt8.ofNat z.toNat), row_of_cells (by rw [byteCells_len, List.length_map, List.length_take]; omega) hl hm (fun i u hi => ?_)⟩
    have hi2 : i < len := by
      have := (List.getElem?_eq_some_iff.1 hi).1
      rw [byteCells_len, List.length_map, List.length_take] at this
      omega
    have hlt : i < zs.length := by omega
    have hb := u8_of_wf (hwz zs[i] (List.getElem_mem hlt))
    have hu : u = .int .u8 (zs[i]) := by
      have hg := hi
      simp only [Lib.byteCells, List.getElem?_map, List.getElem?_take, if_pos hi2, List.getElem?_eq_getElem hlt, Option.map_some, Option.some.injEq] at hg
      rw [← hg]
      refine congrArg (Value.int .u8) ?_
      rw [UInt8.toNat_ofNat']
      omega
    rw [hu, hcell i hlt]
    simp [List.getD, hlt]
end Go.Proofs.Ytgacfihidpijeaa.MM
set_option linter.unusedVariables false
namespace Go.Proofs.Ytgacfihidpijeaa.MM
open Go Go.RowKit Go.ChangeShapes Go.WideShapes

/-- What is read as data of type t lies as C says, and G holds of it. -/
def Reads (P : Program) {α : Type} (C : Codec α) (G : α → Prop) (t : TypeId) : Prop :=
  ∀ {H : Type} {enc : TypeId × Value → H} {W : World} {base n : Nat} {cs : List Value} {x : DataW H × List MemPlace}, DataW.trod enc P W base (fun _ => true) true n t cs = some x → ∃ a, C.on (fun _ => True) W cs a ∧ G a
def FitI (z : Int) : Prop := -9223372036854775808 ≤ z ∧ z ≤ 9223372036854775807
theorem reads_int {P : Program} {t : TypeId} (ht : P.underlying t = some (.int .i64)) : Reads P cInt FitI t := fun h => by
  obtain ⟨z, rfl, _, hw⟩ := DataW.trod_int ht h
  refine ⟨z, rfl, ?_⟩
  simp only [Lit.wf, Bool.and_eq_true, decide_eq_true_eq] at hw
  have h1 : IntKind.i64.min = -9223372036854775808 := by decide
  have h2 : IntKind.i64.max = 9223372036854775807 := by decide
  rw [h1, h2] at hw
  exact hw
theorem reads_bool {P : Program} {t : TypeId} (ht : P.underlying t = some .bool) : Reads P cBool (fun _ => True) t := fun h => by
  obtain ⟨b, rfl, _⟩ := DataW.trod_bool ht h
  exact ⟨b, rfl, trivial⟩
theorem reads_u8 {P : Program} {t : TypeId} (ht : P.underlying t = some (.int .u8)) : Reads P cU8 (fun _ => True) t := fun h => by
  obtain ⟨z, rfl, _, hw⟩ := DataW.trod_int ht h
  simp only [Lit.wf, Bool.and_eq_true, decide_eq_true_eq] at hw
  have h1 : IntKind.u8.min = 0 := by decide
  have h2 : IntKind.u8.max = 255 := by decide
  rw [h1, h2] at hw
  refine ⟨UInt8.ofNat z.toNat, ?_, trivial⟩
  show [Value.int .u8 z] = [.int .u8 ((UInt8.ofNat z.toNat).toNat : Int)]
  rw [UInt8.toNat_ofNat']
  congr 2
  omega
theorem reads_str {P : Program} {t : TypeId} (ht : P.underlying t = some .string) : Reads P cStr (fun l => l.length ≤ maxLen) t := fun h => by
  obtain ⟨s, rfl, _, hs⟩ := DataW.trod_string ht h
  exact ⟨s.data.toList, rfl, by simpa using hs⟩
/-- A slice. -/
theorem reads_row {P : Program} {α : Type} [Inhabited α] {C : Codec α} {G : α → Prop} {T e : TypeId} (ht : P.underlying T = some (.slice e)) (hc : P.cellsOf e = C.size) (he : Reads P C G e) : Reads P (cRow C) (fun l => (∀ a ∈ l, G a) ∧ l.length ≤ maxLen) T := fun {H enc W base n cs x} h => by
  rcases Deep.open_slice ht h with ⟨rfl, _⟩ | ⟨a, len, cap, m, k, D, Pl, rfl, _, hl, hm, hmm, _, hx⟩
  · exact ⟨[], ⟨_, rfl, ROn.nil_ _ _⟩, by simp, by simp [maxLen]⟩
  · simp only [if_true] at hmm
    subst hmm
    have each : ∀ i, i < len → ∃ q : α × List Value, W.cells? base (a.add (i * C.size)) C.size = some q.2 ∧ C.on (fun _ => True) W q.2 q.1 ∧ G q.1 := fun i hi => by
      obtain ⟨cs', h1, h2⟩ := hx i (by omega)
      obtain ⟨d, h3, h4⟩ := he h2
      rw [hc] at h1
      exact ⟨(d, cs'), h1, h3, h4⟩
    obtain ⟨q, hq⟩ := Deep.choose_lt each
    refine ⟨(List.range len).map fun i => (q i).1, ⟨_, rfl, some a, m, (List.range len).map fun i => (q i).2, by simp, by simpa using hl, hm, (fun h => by cases h), ⟨by simp, fun i hi hi' => ?_⟩, ?_⟩, fun d hd => ?_, by simp; omega⟩
    · have hi2 : i < len := by simpa using hi
      simp only [List.getElem_map, List.getElem_range]
      exact (hq i hi2).2.1
    · by_cases h0 : len = 0
      · left; simp [h0]
      · right
        have hlens : ∀ r ∈ (List.range len).map (fun i => (q i).2), r.length = C.size := fun r hr => by
          obtain ⟨i, hi, rfl⟩ := List.mem_map.1 hr
          exact C.len (hq i (List.mem_range.1 hi)).2.1
        have cell : ∀ i, i < len → ∀ j u, (q i).2[j]? = some u → W.cell? ((a.add (i * C.size)).add j) = some u := fun i hi j u hj => by
          obtain ⟨_, hlen, hcell⟩ := World.cells?_some (hq i hi).1
          have hjl := (List.getElem?_eq_some_iff.1 hj).1
          have := hcell j (by omega)
          rw [this]
          simpa using hj
        have hp := C.pos
        have hl0 := C.len (hq 0 (by omega)).2.1
        obtain ⟨u0, hu0⟩ : ∃ u, (q 0).2[0]? = some u := ⟨_, List.getElem?_eq_getElem (by omega)⟩
        have c0 := cell 0 (by omega) 0 u0 hu0
        obtain ⟨b, off, spot⟩ := a
        have hspot : spot = none := by
          have := World.cell?_spot c0
          simpa [Addr.add] using this
        subst hspot
        refine ⟨b, off, rfl, ?_, trivial, fun j u hj => ?_⟩
        · rw [add_at, add_at] at c0
          by_cases hb : b < W.heap.size
          · exact hb
          · simp [World.cell?, Array.getElem?_eq_none (Nat.le_of_not_lt hb)] at c0
        · have hjl := (List.getElem?_eq_some_iff.1 hj).1
          rw [flat_len hlens, List.length_map, List.length_range] at hjl
          have hi : j / C.size < len := (Nat.div_lt_iff_lt_mul hp).2 hjl
          have hmod := Nat.mod_lt j hp
          have hdm := Nat.div_add_mod j C.size
          have hli := C.len (hq _ hi).2.1
          obtain ⟨u', hu'⟩ : ∃ u, (q (j / C.size)).2[j % C.size]? = some u := ⟨_, List.getElem?_eq_getElem (by omega)⟩
          have hf := flat_get hlens (j / C.size) (by simpa using hi) (j % C.size) u' (by simpa using hu')
          have e : j / C.size * C.size + j % C.size = j := by rw [Nat.mul_comm]; exact hdm
          rw [e, hj] at hf
          obtain rfl := Option.some.inj hf
          have := cell _ hi _ _ hu'
          rw [add_at, add_at, Nat.add_assoc, e] at this
          exact this
    · obtain ⟨i, hi, rfl⟩ := List.mem_map.1 hd
      exact (hq i (List.mem_range.1 hi)).2.2
/-- A struct of two fields. -/
theorem reads_pair {P : Program} {α β : Type} {C : Codec α} {D : Codec β} {G : α → Prop} {F : β → Prop} {t : TypeId} {f0 f1 : Field} (ht : P.underlying t = some (.struct #[f0, f1]))
    (ho0 : f0.offset = 0) (ho1 : f1.offset = C.size) (hc0 : P.cellsOf f0.type = C.size) (hc1 : P.cellsOf f1.type = D.size) (hc : P.cellsOf t = C.size + D.size) (h0 : Reads P C G f0.type) (h1 : Reads P D F f1.type) :
    Reads P (cPair C D) (fun p => G p.1 ∧ F p.2) t := fun {H enc W base n cs x} h => by
  obtain ⟨y0, y1, k, _, hl, g0, g1⟩ := trod_struct2 ht h
  obtain ⟨a, a1, a2⟩ := h0 g0
  obtain ⟨b, b1, b2⟩ := h1 g1
  rw [ho0, hc0, List.drop_zero] at a1
  rw [ho1, hc1] at b1
  rw [hc] at hl
  have e : (cs.drop C.size).take D.size = cs.drop C.size := List.take_of_length_le (by rw [List.length_drop]; omega)
  rw [e] at b1
  exact ⟨(a, b), ⟨cs.take C.size, cs.drop C.size, (List.take_append_drop _ _).symm, a1, b1⟩, a2, b2⟩
/-- The fields of a struct from an offset on. -/
def ReadsFs (P : Program) {α : Type} (C : Codec α) (G : α → Prop) (fs : List Field) (off : Nat) : Prop :=
  ∀ {H : Type} {enc : TypeId × Value → H} {W : World} {base n : Nat} {cs : List Value}, cs.length = off + C.size →
    (∀ (i : Nat) f, fs[i]? = some f → ∃ y : DataW H × List MemPlace, DataW.trod enc P W base (fun _ => true) true n f.type ((cs.drop f.offset).take (P.cellsOf f.type)) = some y) →
    ∃ a, C.on (fun _ => True) W (cs.drop off) a ∧ G a
theorem readsFs_one {P : Program} {α : Type} {C : Codec α} {G : α → Prop} {f : Field} {off : Nat} (ho : f.offset = off) (hc : P.cellsOf f.type = C.size) (h : Reads P C G f.type) : ReadsFs P C G [f] off := fun {H enc W base n cs} hl hf => by
  obtain ⟨y, hy⟩ := hf 0 f rfl
  rw [ho, hc] at hy
  have e : (cs.drop off).take C.size = cs.drop off := List.take_of_length_le (by rw [List.length_drop]; omega)
  rw [e] at hy
  exact h hy
theorem readsFs_cons {P : Program} {α β : Type} {C : Codec α} {D : Codec β} {G : α → Prop} {F : β → Prop} {f : Field} {fs : List Field} {off : Nat} (ho : f.offset = off) (hc : P.cellsOf f.type = C.size) (h : Reads P C G f.type)
    (k : ReadsFs P D F fs (off + C.size)) : ReadsFs P (cPair C D) (fun p => G p.1 ∧ F p.2) (f :: fs) off := fun {H enc W base n cs} hl hf => by
  have hl2 : cs.length = off + (C.size + D.size) := hl
  obtain ⟨y, hy⟩ := hf 0 f rfl
  rw [ho, hc] at hy
  obtain ⟨a, a1, a2⟩ := h hy
  obtain ⟨b, b1, b2⟩ := k (enc := enc) (W := W) (base := base) (n := n) (cs := cs) (by omega) (fun i g hg => hf (i + 1) g (by simpa using hg))
  refine ⟨(a, b), ⟨(cs.drop off).take C.size, cs.drop (off + C.size), ?_, a1, b1⟩, a2, b2⟩
  rw [← List.drop_drop, List.take_append_drop]
/-- A struct. -/
theorem reads_struct {P : Program} {α : Type} {C : Codec α} {G : α → Prop} {t : TypeId} {fs : List Field} (ht : P.underlying t = some (.struct fs.toArray)) (hc : P.cellsOf t = C.size) (h : ReadsFs P C G fs 0) : Reads P C G t := fun {H enc W base n cs x} hx => by
  obtain ⟨xs, k, _, _, hl, hlen, hf⟩ := DataW.trod_struct ht hx
  have := h (enc := enc) (W := W) (base := base) (n := k) (cs := cs) (by rw [hl, hc, Nat.zero_add]) (fun i f hi => by
    have hi2 : fs.toArray[i]? = some f := by simpa using hi
    have hlt : i < xs.length := by
      rw [hlen]
      have := (List.getElem?_eq_some_iff.1 hi).1
      simpa using this
    exact ⟨xs[i], by rw [hf i f hi2, List.getElem?_eq_getElem hlt]⟩)
  rwa [List.drop_zero] at this
/-- An argument that is a struct. -/
theorem argC_struct {P : Program} {α : Type} {C : Codec α} {G : α → Prop} {t : TypeId} {fs : Array Field} {H : Type} {enc : TypeId × Value → H} {W : World} {base base2 : Nat} {v : Value} {d : DataW H} {p : List MemPlace} (R : Reads P C G t) (ht : P.underlying t = some (.struct fs))
    (hv : Value.okWide P W .any base2 t v) (h : ∃ fuel, DataW.trod enc P W base (fun _ => true) true fuel t v.cells.toList = some (d, p)) : ∃ cs a, v = .agg cs ∧ C.on (fun _ => True) W cs.toList a ∧ G a := by
  obtain ⟨cs, rfl, hsz⟩ := okWide_struct ht hv
  obtain ⟨fuel, hf⟩ := h
  obtain ⟨a, a1, a2⟩ := R hf
  exact ⟨cs, a, rfl, a1, a2⟩
/-- An argument that is a slice. -/
theorem argC_slice {P : Program} {α : Type} {C : Codec α} {G : List α → Prop} {t : TypeId} {H : Type} {enc : TypeId × Value → H} {W : World} {base : Nat} {a : Option Addr} {len cap : Nat} {d : DataW H} {p : List MemPlace} (R : Reads P (cRow C) G t)
    (h : ∃ fuel, DataW.trod enc P W base (fun _ => true) true fuel t (Value.slice a len cap).cells.toList = some (d, p)) : ∃ l, RAny C W (.slice a len cap) l ∧ G l := by
  obtain ⟨fuel, hf⟩ := h
  obtain ⟨l, ⟨v, hv, hr⟩, hG⟩ := R hf
  have e : (Value.slice a len cap).cells.toList = [.slice a len cap] := rfl
  rw [e] at hv
  obtain rfl : Value.slice a len cap = v := by simpa using hv
  exact ⟨l, hr, hG⟩
end Go.Proofs.Ytgacfihidpijeaa.MM
set_option linter.unusedVariables false
namespace Go.Proofs.Ytgacfihidpijeaa.EV
open Go Go.RowKit Go.Proofs.Ytgacfihidpijeaa.MM Go.Proofs.Ytgacfihidpijeaa.EM

def FitS (p : Fld) : Prop := p.1.length ≤ maxLen ∧ p.2.length ≤ maxLen
theorem reads_fld : Reads Try.prog fldC FitS 68 := reads_pair Try.underlying68 rfl rfl (by kernel_rfl) (by kernel_rfl) (by kernel_rfl) (reads_str Try.underlying9) (reads_str Try.underlying9)
def FitEv (e : Ev) : Prop := FitI e.1 ∧ (∀ f ∈ e.2, FitS f) ∧ e.2.length ≤ maxLen
theorem reads_ev : Reads Try.prog evC FitEv 24 := reads_pair Try.underlying24 rfl rfl (by kernel_rfl) (by kernel_rfl) (by kernel_rfl) (reads_int Try.underlying3) (reads_row Try.underlying22 (by kernel_rfl) reads_fld)
/-- An event's cells. -/
theorem ev_cells {S : Nat → Prop} {w : World} {cs : Array Value} {e : Ev} (h : evC.on S w cs.toList e) : ∃ v, cs = #[.int .i64 e.1, v] ∧ ROn fldC S w v e.2 := by
  obtain ⟨v, hv, hr⟩ := ev_on.1 h
  exact ⟨v, by apply Array.toList_inj.1; rw [hv], hr⟩
theorem str_back (s : ByteArray) : s = ⟨s.data.toList.toArray⟩ := by simp
end Go.Proofs.Ytgacfihidpijeaa.EV
set_option linter.unusedVariables false
namespace Go.Proofs.Ytgacfihidpijeaa.EV
open Go Go.RowKit Go.Proofs.Ytgacfihidpijeaa.MM Go.Proofs.Ytgacfihidpijeaa.EM

def FitBat (b : Bat) : Prop := FitI b.1 ∧ (∀ e ∈ b.2, FitEv e) ∧ b.2.length ≤ maxLen
theorem reads_bat : Reads Try.prog batC FitBat 34 := reads_pair Try.underlying34 rfl rfl (by kernel_rfl) (by kernel_rfl) (by kernel_rfl) (reads_int Try.underlying3) (reads_row Try.underlying32 (by kernel_rfl) reads_ev)
end Go.Proofs.Ytgacfihidpijeaa.EV
set_option linter.unusedVariables false
namespace Go.Proofs.Ytgacfihidpijeaa.EV
open Go Go.RowKit Go.Proofs.Ytgacfihidpijeaa.MM Go.Proofs.Ytgacfihidpijeaa.EM Go.Proofs.Ytgacfihidpijeaa.VM
open Go.Proofs.Ytgacfihidpijeaa.VP

set_option maxRecDepth 100000 in
set_option maxHeartbeats 4000000 in
theorem codes_walk (z : Int) (u : Value) (es : List Ev) (b : Value) (l : List UInt8) (w : World) (hb : BRow w b l) (hr : RAny evC w u es) (hf : ∀ e ∈ es, FitE e) :
    Calls Try.prog 6 #[.agg #[.int .i64 z, u], b] w fun e w' => e = .returned (.bool true) ∧ Below w.heap.size w w' := by
  obtain ⟨p, cap, rfl, hlc, hcm, _⟩ := hr.shape
  unfold maxLen at hcm
  have hbx := btbox_below w z (.slice p es.length cap)
  have HL := Lib.hid (lightb_any z _ es _ (RAny.below hr hbx))
  have HR := Lib.hid hr
  have HB := Lib.hid hb
  have HF := Lib.hid hf
  clear hr hbx hb hf
  go_enter Try.func6, Try.ntmps6
  go_wp2_with fail
  refine HL.out.mono ?_
  rintro e w1 ⟨b1, rfl, hb1⟩
  obtain ⟨c0, c1, hbw⟩ := btbox_in hb1
  have HB1 := Lib.hid hb1
  have HBW1 := Lib.hid hbw
  clear hb1 HL
  cases b1 with
  | false =>
    clear hbw
    go_wp2_with fail
    refine (awake_any _).mono ?_
    rintro e w2 ⟨rfl, hb2⟩
    have HB2 := Lib.hid (HBW1.out.trans (hb2.mono HBW1.out.size))
    clear hb2
    go_wp2_with fail
    go_ret
    exact ⟨rfl, HB2.out⟩
  | true =>
    go_wp2_with fail
    refine (lcut_any w.heap.size b l w1 (BIn.below HB.out HBW1.out)).mono ?_
    rintro e w1' ⟨u1, rfl, hu1, rfl⟩
    obtain ⟨L, hL⟩ : ∃ L, cutL l = L := ⟨_, rfl⟩
    rw [hL] at hu1
    have HU1 := Lib.hid hu1
    have hs1 := hbw.size
    obtain ⟨ec, hec⟩ : ∃ ec, checkB (z, es) = ec := ⟨_, rfl⟩
    obtain ⟨X, hX⟩ : ∃ X, encR (z, es) = X := ⟨_, rfl⟩
    have HCE := Lib.hid (fun W (h : RAny evC W (.slice p es.length cap) es) => cencode_any z _ es W h HF.out)
    have HRE := Lib.hid (fun W (h : RAny evC W (.slice p es.length cap) es) => rencode_any z _ es W h HF.out)
    rw [hec, hX] at HCE HRE
    clear hbw hu1 hL HB hec hX
    go_wp2_with fail
    refine (HCE.out w1' (HR.out.below HBW1.out)).mono ?_
    rintro e w2 ⟨x2, rfl, ho2, hb2⟩
    have HO2 := Lib.hid ho2.brow
    have HBB2 := Lib.hid (HB1.out.trans (hb2.mono HB1.out.size))
    have HBW2 := Lib.hid (HBW1.out.trans (hb2.mono HBW1.out.size))
    have HU2 := Lib.hid (HU1.out.below (hb2.mono hs1))
    obtain ⟨d0, d1, _⟩ := btbox_in HBB2.out
    clear ho2 hb2 c0 c1 HB1 HBW1 HU1 HCE
    go_wp2_with fail
    refine (HRE.out w2 (HR.out.below HBW2.out)).mono ?_
    rintro e w3 ⟨x3, rfl, ho3, hb3⟩
    have HO3 := Lib.hid ho3.brow
    have HP3 := Lib.hid (BRow.below HO2.out hb3)
    have HBW3 := Lib.hid (HBW2.out.trans (hb3.mono HBW2.out.size))
    have HU3 := Lib.hid (HU2.out.below (hb3.mono HBW2.out.size))
    clear ho3 hb3 d0 d1 HBB2 HBW2 HU2 HRE HO2
    go_wp2_with fail
    refine (cdec_any u1 L w3 (HU3.out.row HBW3.out.size)).mono ?_
    have hgi := rdec_in w.heap.size u1 L
    obtain ⟨⟨⟨n, gs⟩, er⟩, hG⟩ : ∃ G, decR L = G := ⟨_, rfl⟩
    rw [hG] at hgi ⊢
    have HGI := Lib.hid hgi
    rintro e w4 ⟨u4, rfl, hu4, hb4⟩
    dsimp only at hu4 ⊢
    obtain ⟨p4, c4, rfl, _⟩ := hu4.shape
    obtain ⟨w5, hw5⟩ : ∃ w5, w4.alloc (.cells #[.int .i64 n, .slice p4 gs.length c4] 34) = w5 := ⟨_, rfl⟩
    have ha4 : Below w4.heap.size w4 w5 := by rw [← hw5]; exact (Below.refl _ _).alloc (Nat.le_refl _) _
    have x5 : Two w5 w4.heap.size 34 (.int .i64 n) (.slice p4 gs.length c4) := by rw [← hw5]; exact two_new w4 34 _ _
    have h35 := hb4.trans (ha4.mono hb4.size)
    have HW5 := Lib.hid hw5
    have HX5 := Lib.hid x5
    have HG5 := Lib.hid (RAny.below hu4 ha4)
    have HO5 := Lib.hid (BRow.below HO3.out h35)
    have HP5 := Lib.hid (BRow.below HP3.out h35)
    have HBW5 := Lib.hid (HBW3.out.trans (h35.mono HBW3.out.size))
    have HU5 := Lib.hid (HU3.out.below (h35.mono HBW3.out.size))
    clear hu4 hb4 ha4 x5 h35 hw5 hgi hG HO3 HP3 HBW3 HU3
    go_wp2_with fail
    rw [HW5.out]
    refine (HGI.out w5 HU5.out HBW5.out.size).mono ?_
    rintro e w6 ⟨u6, rfl, hu6, hb6⟩
    dsimp only at hu6 ⊢
    obtain ⟨p6, c6, rfl, _⟩ := hu6.shape
    obtain ⟨w7, hw7⟩ : ∃ w7, w6.alloc (.cells #[.int .i64 n, .slice p6 gs.length c6] 34) = w7 := ⟨_, rfl⟩
    have ha6 : Below w6.heap.size w6 w7 := by rw [← hw7]; exact (Below.refl _ _).alloc (Nat.le_refl _) _
    have x7 : Two w7 w6.heap.size 34 (.int .i64 n) (.slice p6 gs.length c6) := by rw [← hw7]; exact two_new w6 34 _ _
    have h57 := hb6.trans (ha6.mono hb6.size)
    have y7 := HX5.out.below h57 HX5.out.lt
    have m0 := y7.c0
    have m1 := y7.c1
    have n0 := x7.c0
    have n1 := x7.c1
    have e1 := BIn.conv (BRow.below HO5.out h57)
    have e2 := BIn.conv (BRow.below HP5.out h57)
    have HW7 := Lib.hid hw7
    have HG7 := Lib.hid (RAny.below HG5.out h57)
    have HH7 := Lib.hid (RAny.below hu6 ha6)
    have HBW7 := Lib.hid (HBW5.out.trans (h57.mono HBW5.out.size))
    rw [← hw7] at m0 m1 n0 n1 e1 e2
    clear hu6 hb6 ha6 x7 y7 h57 hw7 HGI HX5 HG5 HO5 HP5 HBW5 HU5
    go_wp2_with fail
    rw [HW7.out]
    refine (samebat_any n n _ _ gs gs w7 HG7.out HH7.out).mono ?_
    rintro e w8 ⟨rfl, hb8⟩
    rw [decide_eq_true (rfl : (n, gs) = (n, gs))]
    have HBW8 := Lib.hid (HBW7.out.trans (hb8.mono HBW7.out.size))
    clear hb8 m0 m1 n0 n1 e1 e2 HG7 HH7 HBW7
    go_wp2_with fail
    refine (awake_any _).mono ?_
    rintro e w9 ⟨rfl, hb9⟩
    have HEND := Lib.hid (HBW8.out.trans (hb9.mono HBW8.out.size))
    clear hb9
    go_wp2_with fail
    go_ret
    exact ⟨rfl, HEND.out⟩

set_option maxRecDepth 100000 in
theorem codes_call (cs0 : Array Value) (e0 : Bat) (b : Value) (l : List UInt8) (W : World) (h0 : batC.on (fun _ => True) W cs0.toList e0) (hg : FitBat e0) (hb : BRow W b l) :
    Calls Try.prog 6 #[.agg cs0, b] W fun e W' => e = .returned (.bool true) ∧ Below W.heap.size W W' := by
  obtain ⟨v, hv, hr⟩ := bat_on.1 h0
  obtain rfl : cs0 = #[.int .i64 e0.1, v] := by apply Array.toList_inj.1; rw [hv]
  exact codes_walk e0.1 v e0.2 b l W hb hr.any fun e he => ⟨(hg.2.1 e he).1.1, (hg.2.1 e he).1.2⟩
end Go.Proofs.Ytgacfihidpijeaa.EV
set_option linter.unusedVariables false
namespace Go.Proofs.Ytgacfihidpijeaa.EF4
open Go.ChangeShapes Go.WideShapes Go.ChangeAt Go.RowKit Go.Proofs.Ytgacfihidpijeaa.MM
open Go.ChangeMaps (open_string shut_string)

set_option maxRecDepth 100000 in
theorem contract (H : Type) (enc : TypeId × Value → H) (W : World) (args : Array Value) (ds gs : List (DataW H)) (before : List MemPlace)
    (hval : ∀ (j : Nat) t v, Try.f6.params[j]? = some t → args[j]? = some v → Value.okWide Try.prog W .any 0 t v)
    (hW : DataW.Whole enc Try.prog Try.f6.params.toList Rows.eventCodesSpec.vars false W args.toList ds gs before) :
    Calls Try.prog 6 args W fun e W' => ∃ v, e = .returned v ∧ Rows.eventCodesSpec.post enc Try.prog Try.f6 false true false false W args v W' := by
  have hW' := hW
  obtain ⟨p, q, hA0, hV, rfl, hfz, hnd⟩ := hW
  have hA : DataW.TrodAll enc Try.prog W 0 (fun _ => true) true Try.f6.params.toList args.toList ds p := hA0
  rw [Try.params6] at hA hval
  obtain ⟨v0, vs0, d0, ds0, p0, q0, hargs, rfl, rfl, h0, r0⟩ := trodAll_cons hA
  obtain ⟨v1, vs1, d1, ds1, p1, q1, rfl, rfl, rfl, h1, r1⟩ := trodAll_cons r0
  obtain ⟨rfl, rfl, rfl⟩ := trodAll_nil r1
  obtain rfl : args = #[v0, v1] := by cases args; simp_all
  obtain ⟨rfl, rfl⟩ := trodVars_none hV
  have k0 := h0
  have lt0 : ∀ x ∈ p0, x.block < W.heap.size := by obtain ⟨m, hm⟩ := k0; exact DataW.trod_lt m _ _ _ hm
  obtain ⟨cs0, e0, rfl, b0, g0⟩ := argC_struct EV.reads_bat Try.underlying34 (hval 0 34 v0 rfl rfl) h0
  obtain ⟨a1, len1, cap1, rfl⟩ := okWide_slice Try.underlying40 (hval 1 40 v1 rfl rfl)
  have k1 := h1
  have lt1 : ∀ x ∈ p1, x.block < W.heap.size := by obtain ⟨m, hm⟩ := k1; exact DataW.trod_lt m _ _ _ hm
  obtain ⟨l1, b1⟩ := argBytes Try.underlying40 Try.underlying5 (by kernel_rfl) h1
  clear hA0
  refine (EV.codes_call cs0 e0 (.slice a1 len1 cap1) l1 W b0 g0 b1).mono fun e W' ⟨he, bel⟩ => ?_
  subst he
  exact ⟨_, rfl, _, _, _, [], _, [], hW', trodAll_mk1 (shut_bool Try.underlying4 _), (trodAll_cons_mk (Below.trod laidOut (by kernel_rfl) (of_decide_eq_true (by kernel_rfl)) k0 bel lt0) (trodAll_cons_mk (Below.trod laidOut (by kernel_rfl) (of_decide_eq_true (by kernel_rfl)) k1 bel lt1) trodAll_mk0)), rfl, bel.frame _, fun h => by cases h⟩

set_option maxRecDepth 100000 in
theorem lifted (os : Os) (started : os.Started) (H : Type) (enc : TypeId × Value → H) :
    ReturnsInHanded {} Try.checked os 6 .any (Rows.eventCodesSpec.pre6 enc Try.prog Try.f6 Rows.eventCodesRow.domain false) (Rows.eventCodesSpec.post enc Try.prog Try.f6 false true false false) := by
  refine returnsInHanded_of_change (C := Try.checked) own started (by kernel_rfl) Try.func6
    (ChangeSpec.witness6 (enc := enc) (C := Try.checked) false ⟨#[], #[.agg #[.int .i64 0, .slice none 0 0], .slice none 0 0], []⟩ 8 (by kernel_rfl) (by kernel_rfl) (by kernel_rfl) (by kernel_rfl)) ?_
  intro W base args ds gs before hval hW _ _
  exact contract H enc W args ds gs before hval hW

theorem said : Rows.EventCodesSaid :=
  OpenClaim.holds_of_wide 6 Try.f6 rfl rfl rfl rfl rfl rfl rfl ⟨rfl, rfl, rfl, rfl, rfl⟩ rfl rfl rfl rfl rfl (by kernel_rfl) Try.func6 (by kernel_rfl)
    (of_decide_eq_true (by kernel_rfl)) (by unfold Func.isWrapper; first | (rw [if_pos (by decide +kernel)]; kernel_rfl) | (rw [if_neg (by decide +kernel)]; exact ⟨rfl, rfl⟩))
    (fun os started H enc _ => lifted os started H enc)
end Go.Proofs.Ytgacfihidpijeaa.EF4
namespace Go.Proofs.Ytgacfihidpijeaa
theorem eventCodes_holds : Rows.EventCodesSaid := EF4.said
#print axioms eventCodes_holds
end Go.Proofs.Ytgacfihidpijeaa
