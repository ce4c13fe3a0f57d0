/-
  Are two rows of numbers the same: the reference's (layer 2). No condition. The law's own example. No condition. Has an event more text than is looked at: it is told. No condition. How great an event is: the code's Size and the reference's. No condition. Which batches may be: the code's CheckBatch and the reference's. No condition.
-/
import Derived.Test.YtgacfihidpijeaaZE2
import Derived.Test.YtgacfihidpijeaaZE13
import Derived.Test.YtgacfihidpijeaaZE12
set_option linter.unusedVariables false
namespace Go.Proofs.Ytgacfihidpijeaa.MM
open Go Go.RowKit

theorem int_at {S : Nat → Prop} {w : World} {p : Option Addr} {n cap : Nat} {zs : List Int} (h : ROn cInt S w (.slice p n cap) zs) {k : Nat} (hk : k < zs.length) : ∃ b off, p = some ⟨b, off, none⟩ ∧ b < w.heap.size ∧ S b ∧ w.cell? ⟨b, off + k, none⟩ = some (.int .i64 zs[k]) := by
  obtain ⟨b, off, vs, hp, hlt, hS, hon, hc⟩ := h.at_ hk
  have hon : vs = [.int .i64 zs[k]] := hon
  subst hon
  have := hc 0 _ rfl
  rw [show cInt.size = 1 from rfl, Nat.mul_one, Nat.add_zero] at this
  exact ⟨b, off, hp, hlt, hS, this⟩
theorem drop_eq {α : Type} [DecidableEq α] {a b : List α} {i : Nat} (ha : i < a.length) (hb : i < b.length) : decide (a.drop i = b.drop i) = (decide (a[i] = b[i]) && decide (a.drop (i + 1) = b.drop (i + 1))) := by
  rw [List.drop_eq_getElem_cons ha, List.drop_eq_getElem_cons hb]
  rw [Bool.eq_iff_iff, decide_eq_true_eq, Bool.and_eq_true, decide_eq_true_eq, decide_eq_true_eq, List.cons.injEq]
set_option maxRecDepth 100000 in
set_option maxHeartbeats 2000000 in
theorem sameints_any (u v : Value) (xs ys : List Int) (w : World) (hu : RAny cInt w u xs) (hv : RAny cInt w v ys) : Calls Try.prog 38 #[u, v] w fun e w' => e = .returned (.bool (decide (xs = ys))) ∧ Below w.heap.size w w' := by
  obtain ⟨p1, cap1, rfl, hl1, hm1, _⟩ := hu.shape
  obtain ⟨p2, cap2, rfl, hl2, hm2, _⟩ := hv.shape
  unfold maxLen at hm1 hm2
  by_cases hn : xs.length = ys.length
  · have t0 : (((xs.length : Int)) != ((ys.length : Int))) = false := by simp [hn]
    obtain ⟨n, hnn⟩ : ∃ n, xs.length = n := ⟨_, rfl⟩
    have hnb : ys.length = n := by omega
    obtain ⟨RES, hRES⟩ : ∃ RES, decide (xs = ys) = RES := ⟨_, rfl⟩
    have h0 : decide (xs.drop 0 = ys.drop 0) = RES := hRES
    rw [hRES]
    have H0 := Lib.hid h0
    have HU := Lib.hid hu
    have HV := Lib.hid hv
    have HNA := Lib.hid hnn
    have HNB := Lib.hid hnb
    rw [hnn, hnb] at t0
    rw [hnn] at hl1 ⊢
    rw [hnb] at hl2 ⊢
    clear h0 hu hv hRES hn hnn hnb
    go_enter Try.func38, Try.ntmps38
    go_wp2_with fail
    go_loopw [5] (fun iv wr => ∃ i : Nat, i ≤ n ∧ iv = .int .i64 i ∧ Hid (decide (xs.drop i = ys.drop i) = RES) ∧ Hid (Below w.heap.size w wr)) (fun iv _ => n - (intOf iv).toNat)
    case atStart => exact ⟨0, by omega, rfl, H0, Lib.hid (Below.refl _ _)⟩
    case round =>
      obtain ⟨i, hi, rfl, HI, HB⟩ := hrel
      clear H0
      by_cases hlt : i < n
      · have q1 : decide ((i : Int) < (n : Int)) = true := by rw [decide_eq_true_eq]; omega
        have q2 : decide (i < n) = true := by rw [decide_eq_true_eq]; omega
        have q3 : (i : Int) < n := by omega
        have ha : i < xs.length := by rw [HNA.out]; exact hlt
        have hb : i < ys.length := by rw [HNB.out]; exact hlt
        have hu1 := HU.out.below HB.out
        have hv1 := HV.out.below HB.out
        rw [HNA.out] at hu1
        rw [HNB.out] at hv1
        obtain ⟨b1, o1, rfl, hb1, _, c1⟩ := int_at hu1 ha
        obtain ⟨b2, o2, rfl, hb2, _, c3⟩ := int_at hv1 hb
        have hnx := HI.out
        rw [drop_eq ha hb] at hnx
        generalize xs[i] = X at *
        generalize ys[i] = Y at *
        have HN := Lib.hid hnx
        have HLT := Lib.hid hlt
        clear HI hu1 hv1 ha hb hnx hlt
        by_cases e : X = Y
        · have hn := HN.out
          rw [decide_eq_true e, Bool.true_and] at hn
          have t1 : (X != Y) = false := by simp [e]
          have HN2 := Lib.hid hn
          clear HN hn e
          go_wp2_with fail
          go_quiet (fail)
          go_wp2_with fail
          have hlt := HLT.out
          go_roundw
          case rel => exact ⟨i + 1, by omega, by go_num, HN2, Lib.hid (MM.below_drewN HB.out _)⟩
          case measure => simp [intOf]; omega
        · have hn := HN.out
          rw [decide_eq_false e, Bool.false_and] at hn
          have t1 : (X != Y) = true := by simp [e]
          subst hn
          clear HN e
          go_wp2_with fail
          go_quiet (fail)
          go_wp2_with fail
          go_ret
          exact ⟨rfl, MM.below_drewN HB.out _⟩
      · obtain rfl : i = n := by omega
        have q1 : decide ((i : Int) < (i : Int)) = false := by simp
        have q2 : decide (i < i) = false := by simp
        have hf : RES = true := by
          rw [← HI.out, List.drop_of_length_le (by rw [HNA.out]; exact Nat.le_refl _), List.drop_of_length_le (by rw [HNB.out]; exact Nat.le_refl _)]
          simp
        subst hf
        clear HI
        go_wp2_with fail
        go_ret
        exact ⟨rfl, HB.out⟩
  · have t0 : (((xs.length : Int)) != ((ys.length : Int))) = true := by simp; omega
    have e : decide (xs = ys) = false := decide_eq_false fun h => hn (by rw [h])
    rw [e]
    clear hu hv e hn
    go_enter Try.func38, Try.ntmps38
    go_wp2_with fail
    go_ret
    exact ⟨rfl, Below.refl _ _⟩
end Go.Proofs.Ytgacfihidpijeaa.MM
set_option linter.unusedVariables false
namespace Go.Proofs.Ytgacfihidpijeaa.EV
open Go Go.RowKit Go.Proofs.Ytgacfihidpijeaa.MM Go.Proofs.Ytgacfihidpijeaa.EM

def exA : Ev := (0, [([109, 115, 103], [97, 32, 98, 32, 97]), ([109, 115, 103], [98])])
def exT : List Trm := [([109, 115, 103, 58, 97], [0, 2]), ([109, 115, 103, 58, 98], [1, 67])]
theorem ex_terms : termsE exA = exT := by decide +kernel
theorem ex_bad : checkE (0, [([], [])]) = 100 := by decide +kernel
/-- A literal of fields. -/
theorem flds_lit (w : World) (fs : List Fld) (hl : fs.length ≤ maxLen) : RAny fldC (w.alloc (.cells (fs.flatMap fun f => [.string ⟨f.1.toArray⟩, .string ⟨f.2.toArray⟩]).toArray 68)) (.slice (some ⟨w.heap.size, 0, none⟩) fs.length fs.length) fs := by
  have := ron_lit (C := fldC) (S := fun _ => True) (e := 68) w (fs.map fun f => [.string ⟨f.1.toArray⟩, .string ⟨f.2.toArray⟩]) fs hl ⟨by simp, fun i hi hi' => by rw [List.getElem_map]; exact fld_on.2 rfl⟩
  rw [← List.flatMap_def] at this
  exact this.any
/-- A literal of numbers. -/
theorem ints_lit (w : World) (zs : List Int) (hl : zs.length ≤ maxLen) : RAny cInt (w.alloc (.cells (zs.map fun z => Value.int .i64 z).toArray 3)) (.slice (some ⟨w.heap.size, 0, none⟩) zs.length zs.length) zs := by
  have := ron_lit (C := cInt) (S := fun _ => True) (e := 3) w (zs.map fun z => [.int .i64 z]) zs hl ⟨by simp, fun i hi hi' => by rw [List.getElem_map]; rfl⟩
  rw [flat_singles] at this
  exact this.any
/-- The k-th term: its text, its places. -/
theorem trm_at {S : Nat → Prop} {w : World} {p : Option Addr} {n cap : Nat} {ts : List Trm} (h : ROn trmC S w (.slice p n cap) ts) {k : Nat} (hk : k < ts.length) :
    ∃ b off v, p = some ⟨b, off, none⟩ ∧ b < w.heap.size ∧ S b ∧ w.cell? ⟨b, off + k * 2, none⟩ = some (.string ⟨ts[k].1.toArray⟩) ∧ w.cell? ⟨b, off + k * 2 + 1, none⟩ = some v ∧ ROn cInt S w v ts[k].2 := by
  obtain ⟨b, off, vs, hp, hlt, hS, hon, hc⟩ := h.at_ hk
  rw [trm_on] at hon
  obtain ⟨v, rfl, hr⟩ := hon
  exact ⟨b, off, v, hp, hlt, hS, hc 0 _ rfl, hc 1 _ rfl, hr⟩

set_option maxRecDepth 100000 in
set_option maxHeartbeats 2000000 in
theorem awake_any (w : World) : Calls Try.prog 18 #[] w fun e w' => e = .returned (.bool true) ∧ Below w.heap.size w w' := by
  have hb0 : Below w.heap.size w (w.alloc (.cells #[.string ⟨#[109, 115, 103]⟩, .string ⟨#[97, 32, 98, 32, 97]⟩, .string ⟨#[109, 115, 103]⟩, .string ⟨#[98]⟩] 68)) := (Below.refl _ _).alloc (Nat.le_refl _) _
  have hr0 := flds_lit w exA.2 (by unfold maxLen exA; simp)
  have hT := terms_any 0 _ _ _ hr0
  rw [show termsE (0, exA.2) = exT from ex_terms] at hT
  have HT := Lib.hid hT
  have HB0 := Lib.hid hb0
  clear hb0 hr0 hT
  go_enter Try.func18, Try.ntmps18
  go_wp2_with fail
  refine HT.out.mono ?_
  rintro e w2 ⟨u, rfl, hu, hb2⟩
  obtain ⟨p, cap, rfl, hcl, hcm, _⟩ := hu.shape
  obtain ⟨b, off, v0, rfl, hbl, _, c0, c1, h0⟩ := trm_at hu (k := 0) (by decide)
  obtain ⟨b', off', v1, hp, _, _, c2, c3, h1⟩ := trm_at hu (k := 1) (by decide)
  simp only [Option.some.injEq, Addr.mk.injEq] at hp
  obtain ⟨rfl, rfl, _⟩ := hp
  change RAny cInt w2 v0 [0, 2] at h0
  change RAny cInt w2 v1 [1, 67] at h1
  obtain ⟨p0, cp0, rfl, _⟩ := ROn.shape h0
  obtain ⟨p1, cp1, rfl, _⟩ := ROn.shape h1
  change w2.cell? ⟨b, off + 0 * 2, none⟩ = some (.string ⟨#[109, 115, 103, 58, 97]⟩) at c0
  change w2.cell? ⟨b, off + 1 * 2, none⟩ = some (.string ⟨#[109, 115, 103, 58, 98]⟩) at c2
  rw [Nat.zero_mul, Nat.add_zero] at c0
  rw [Nat.zero_mul, Nat.add_zero] at c1
  rw [Nat.one_mul] at c2 c3
  change 2 ≤ cap at hcl
  have HB2 := Lib.hid (grow HB0.out hb2)
  have H0 := Lib.hid h0
  have H1 := Lib.hid h1
  clear hu hb2 h0 h1 HT
  have ha0 : Below w2.heap.size w2 (w2.alloc (.cells #[.int .i64 0, .int .i64 2] 3)) := (Below.refl _ _).alloc (Nat.le_refl _) _
  have hS0 := sameints_any _ _ [0, 2] [0, 2] _ (H0.out.below ha0) (ints_lit w2 [0, 2] (by unfold maxLen; simp))
  rw [show decide ([(0 : Int), 2] = [0, 2]) = true from by decide] at hS0
  have HS0 := Lib.hid hS0
  have HA0 := Lib.hid ha0
  clear ha0 hS0 H0
  go_wp2_with fail
  refine HS0.out.mono ?_
  rintro e w3 ⟨rfl, hb3⟩
  have hb23 := grow HA0.out hb3
  have d2 := (hb23.cell (p := ⟨b, off + 2, none⟩) hbl).trans c2
  have d3 := (hb23.cell (p := ⟨b, off + 2 + 1, none⟩) hbl).trans c3
  have h13 := H1.out.below hb23
  have ha1 : Below w3.heap.size w3 (w3.alloc (.cells #[.int .i64 1, .int .i64 67] 3)) := (Below.refl _ _).alloc (Nat.le_refl _) _
  have hS1 := sameints_any _ _ [1, 67] [1, 67] _ (h13.below ha1) (ints_lit w3 [1, 67] (by unfold maxLen; simp))
  rw [show decide ([(1 : Int), 67] = [1, 67]) = true from by decide] at hS1
  have HS1 := Lib.hid hS1
  have HB3 := Lib.hid (grow HB2.out hb23)
  have HA1 := Lib.hid ha1
  clear ha1 hS1 h13 hb3 hb23 HS0 H1 HA0 HB2 c0 c1 c2 c3
  go_wp2_with fail
  refine HS1.out.mono ?_
  rintro e w4 ⟨rfl, hb4⟩
  have HB4 := Lib.hid (grow HB3.out (grow HA1.out hb4))
  have ha4 : Below w4.heap.size w4 (w4.alloc (.cells #[.string ⟨#[]⟩, .string ⟨#[]⟩] 68)) := (Below.refl _ _).alloc (Nat.le_refl _) _
  have hC := check_any 0 _ _ _ (flds_lit w4 [([], [])] (by unfold maxLen; simp))
  rw [ex_bad] at hC
  have HC := Lib.hid hC
  have HB5 := Lib.hid (grow HB4.out ha4)
  clear hb4 ha4 hC HS1 HB3 d2 d3
  go_wp2_with fail
  refine HC.out.mono ?_
  rintro e w5 ⟨rfl, hb5⟩
  have HB6 := Lib.hid (grow HB5.out hb5)
  clear hb5 HC HB5 HB4
  go_wp2_with fail
  go_ret
  exact ⟨rfl, HB6.out⟩
end Go.Proofs.Ytgacfihidpijeaa.EV
set_option linter.unusedVariables false
namespace Go.Proofs.Ytgacfihidpijeaa.EV
open Go Go.RowKit Go.Proofs.Ytgacfihidpijeaa.MM Go.Proofs.Ytgacfihidpijeaa.EM

def SomeBool (w : World) (e : Ending) (w' : World) : Prop := ∃ b, e = .returned (.bool b) ∧ Below w.heap.size w w'
set_option maxRecDepth 100000 in
set_option maxHeartbeats 2000000 in
theorem light_any (z : Int) (v : Value) (fs : List Fld) (w : World) (hr : RAny fldC w v fs) : Calls Try.prog 24 #[.agg #[.int .i64 z, v]] w (SomeBool w) := by
  obtain ⟨p, cap, rfl, hlc, hcm, _⟩ := hr.shape
  unfold maxLen at hcm
  have HB := Lib.hid (Below.refl (evBox w z (.slice p fs.length cap)).heap.size (evBox w z (.slice p fs.length cap)))
  have HR := Lib.hid hr
  clear hr
  go_enter Try.func24, Try.ntmps24
  go_wp2_with fail
  go_loopw [3, 4] (fun sv iv wr => ∃ (i n : Nat), i ≤ fs.length ∧ n ≤ 3000 ∧ iv = .int .i64 i ∧ sv = .int .i64 n ∧ Hid (Below (evBox w z (.slice p fs.length cap)).heap.size (evBox w z (.slice p fs.length cap)) wr)) (fun _ iv _ => fs.length - (intOf iv).toNat)
  case atStart => exact ⟨0, 0, by omega, by omega, rfl, rfl, HB⟩
  case round =>
    obtain ⟨i, n, hi, hn, rfl, rfl, HB1⟩ := hrel
    clear HB
    obtain ⟨_, cb, hbw⟩ := box_in HB1.out
    have HBW := Lib.hid hbw
    by_cases hlt : i < fs.length
    · have q1 : decide ((i : Int) < (fs.length : Int)) = true := by rw [decide_eq_true_eq]; omega
      have q2 : decide (i < fs.length) = true := by rw [decide_eq_true_eq]; omega
      have q3 : (i : Int) < cap := by omega
      have q4 : (i : Int) < fs.length := by omega
      obtain ⟨b, off, rfl, hbl, _, c1, c2⟩ := fld_at (HR.out.below hbw) hlt
      generalize fs[i].1 = nm at *
      generalize fs[i].2 = x at *
      obtain ⟨m1, hm1⟩ : ∃ m : Nat, min 1000 (nm.length : Int) = (m : Int) := ⟨min 1000 nm.length, by omega⟩
      obtain ⟨m2, hm2⟩ : ∃ m : Nat, min 1000 (x.length : Int) = (m : Int) := ⟨min 1000 x.length, by omega⟩
      have hb1 : m1 ≤ 1000 := by omega
      have hb2 : m2 ≤ 1000 := by omega
      have HLT := Lib.hid hlt
      by_cases h20 : i < 20
      · have q5 : decide ((i : Int) < 20) = true := by rw [decide_eq_true_eq]; omega
        have q6 : decide (i < 20) = true := by rw [decide_eq_true_eq]; omega
        by_cases h1k : n < 1000
        · have q7 : decide ((n : Int) < 1000) = true := by rw [decide_eq_true_eq]; omega
          have q8 : decide (n < 1000) = true := by rw [decide_eq_true_eq]; omega
          have HM1 := Lib.hid hm1
          have HM2 := Lib.hid hm2
          clear hlt hbw hm1 hm2
          go_wp2_with fail
          go_quiet (fail)
          go_wp2_with fail
          have hlt := HLT.out
          go_roundw
          case rel => exact ⟨i + 1, n + m1 + m2, by omega, by omega, by go_num, (by rw [HM1.out, HM2.out]; simp), Lib.hid (MM.below_drewN HB1.out _)⟩
          case measure => simp [intOf]; omega
        · have q7 : decide ((n : Int) < 1000) = false := by rw [decide_eq_false_iff_not]; omega
          have q8 : decide (n < 1000) = false := by rw [decide_eq_false_iff_not]; omega
          clear hlt hbw hm1 hm2 h1k
          go_wp2_with fail
          go_ret
          exact ⟨_, rfl, HBW.out⟩
      · have q5 : decide ((i : Int) < 20) = false := by rw [decide_eq_false_iff_not]; omega
        have q6 : decide (i < 20) = false := by rw [decide_eq_false_iff_not]; omega
        obtain ⟨bb, hbb⟩ : ∃ bb, decide ((n : Int) < 1000) = bb := ⟨_, rfl⟩
        clear hlt hbw hm1 hm2 h20
        go_wp2_with fail
        go_ret
        exact ⟨_, rfl, HBW.out⟩
    · obtain rfl : i = fs.length := by omega
      have q1 : decide ((fs.length : Int) < (fs.length : Int)) = false := by simp
      have q2 : decide (fs.length < fs.length) = false := by simp
      clear hbw hlt
      go_wp2_with fail
      go_ret
      exact ⟨_, rfl, HBW.out⟩
end Go.Proofs.Ytgacfihidpijeaa.EV
set_option linter.unusedVariables false
namespace Go.Proofs.Ytgacfihidpijeaa.EV
open Go Go.RowKit Go.Proofs.Ytgacfihidpijeaa.MM Go.Proofs.Ytgacfihidpijeaa.EM

set_option maxRecDepth 100000 in
set_option maxHeartbeats 2000000 in
theorem size_any (z : Int) (v : Value) (fs : List Fld) (w : World) (hr : RAny fldC w v fs) : Calls Try.prog 12 #[.agg #[.int .i64 z, v]] w (IntLeft (sizeW fs) w) := by
  obtain ⟨p, cap, rfl, hlc, hcm, _⟩ := hr.shape
  unfold maxLen at hcm
  have HB := Lib.hid (box_below w z (.slice p fs.length cap))
  have HR := Lib.hid hr
  have H0 : Hid (sizeW (fs.take 0) = 16) := Lib.hid (by simp [sizeW, sizeF, wrap64])
  clear hr
  go_enter Try.func12, Try.ntmps12
  go_wp2_with fail
  go_loopw [3, 9] (fun sv iv wr => ∃ (i : Nat) (s : Int), i ≤ fs.length ∧ iv = .int .i64 i ∧ sv = .int .i64 s ∧ Hid (sizeW (fs.take i) = s) ∧ Hid (Below w.heap.size w wr)) (fun _ iv _ => fs.length - (intOf iv).toNat)
  case atStart => exact ⟨0, 16, by omega, rfl, rfl, H0, HB⟩
  case round =>
    obtain ⟨i, s, hi, rfl, rfl, HI, HB1⟩ := hrel
    clear H0 HB
    by_cases hlt : i < fs.length
    · have q1 : decide ((i : Int) < (fs.length : Int)) = true := by rw [decide_eq_true_eq]; omega
      have q2 : decide (i < fs.length) = true := by rw [decide_eq_true_eq]; omega
      obtain ⟨b, off, rfl, hbl, _, c1, c2⟩ := fld_at (HR.out.below HB1.out) hlt
      have hnext := sizeW_next hlt
      rw [HI.out, ← wrap_add2] at hnext
      generalize fs[i].1 = n at *
      generalize fs[i].2 = x at *
      have HN := Lib.hid hnext
      have HLT := Lib.hid hlt
      have hb3 : Below wr.heap.size wr (wr.alloc (.cells #[.string ⟨n.toArray⟩, .string ⟨x.toArray⟩] 68)) := (Below.refl _ wr).alloc (Nat.le_refl _) _
      have HB2 := Lib.hid (HB1.out.trans (hb3.mono HB1.out.size))
      clear hnext HI hlt hb3
      go_wp2_with fail
      have hlt := HLT.out
      go_roundw
      case rel => exact ⟨i + 1, _, by omega, by go_num, rfl, Lib.hid HN.out.symm, HB2⟩
      case measure => simp [intOf]; omega
    · obtain rfl : i = fs.length := by omega
      have q1 : decide ((fs.length : Int) < (fs.length : Int)) = false := by simp
      have q2 : decide (fs.length < fs.length) = false := by simp
      have hn := HI.out
      rw [List.take_length] at hn
      subst hn
      clear HI
      go_wp2_with fail
      go_ret
      exact ⟨rfl, HB1.out⟩

set_option maxRecDepth 100000 in
set_option maxHeartbeats 2000000 in
theorem rsize_any (z : Int) (v : Value) (fs : List Fld) (w : World) (hr : RAny fldC w v fs) : Calls Try.prog 13 #[.agg #[.int .i64 z, v]] w (IntLeft (sizeW fs) w) := by
  obtain ⟨p, cap, rfl, hlc, hcm, _⟩ := hr.shape
  unfold maxLen at hcm
  have HB := Lib.hid (Below.refl (evBox w z (.slice p fs.length cap)).heap.size (evBox w z (.slice p fs.length cap)))
  have HR := Lib.hid hr
  have H0 : Hid (sizeW (fs.take 0) = 16) := Lib.hid (by simp [sizeW, sizeF, wrap64])
  clear hr
  go_enter Try.func13, Try.ntmps13
  go_wp2_with fail
  go_loopw [3, 4] (fun sv iv wr => ∃ (i : Nat) (s : Int), i ≤ fs.length ∧ iv = .int .i64 i ∧ sv = .int .i64 s ∧ Hid (sizeW (fs.take i) = s) ∧ Hid (Below (evBox w z (.slice p fs.length cap)).heap.size (evBox w z (.slice p fs.length cap)) wr)) (fun _ iv _ => fs.length - (intOf iv).toNat)
  case atStart => exact ⟨0, 16, by omega, rfl, rfl, H0, HB⟩
  case round =>
    obtain ⟨i, s, hi, rfl, rfl, HI, HB1⟩ := hrel
    clear H0 HB
    obtain ⟨_, cb, hbw⟩ := box_in HB1.out
    by_cases hlt : i < fs.length
    · have q1 : decide ((i : Int) < (fs.length : Int)) = true := by rw [decide_eq_true_eq]; omega
      have q2 : decide (i < fs.length) = true := by rw [decide_eq_true_eq]; omega
      have q3 : (i : Int) < cap := by omega
      have q4 : (i : Int) < fs.length := by omega
      obtain ⟨b, off, rfl, hbl, _, c1, c2⟩ := fld_at (HR.out.below hbw) hlt
      have hnext := sizeW_next hlt
      rw [HI.out] at hnext
      generalize fs[i].1 = n at *
      generalize fs[i].2 = x at *
      have hn2 : wrap64 (wrap64 (s + (n.length : Int)) + (x.length : Int)) = sizeW (fs.take (i + 1)) := by rw [wrap_add, ← hnext]; congr 1; omega
      have HN := Lib.hid hn2
      have HLT := Lib.hid hlt
      clear hnext HI hbw hn2
      go_wp2_with fail
      go_quiet (fail)
      go_wp2_with fail
      have hlt := HLT.out
      go_roundw
      case rel => exact ⟨i + 1, _, by omega, by go_num, rfl, Lib.hid HN.out.symm, Lib.hid (MM.below_drewN HB1.out _)⟩
      case measure => simp [intOf]; omega
    · obtain rfl : i = fs.length := by omega
      have q1 : decide ((fs.length : Int) < (fs.length : Int)) = false := by simp
      have q2 : decide (fs.length < fs.length) = false := by simp
      have hn := HI.out
      rw [List.take_length] at hn
      subst hn
      have HBW := Lib.hid hbw
      clear HI hbw
      go_wp2_with fail
      go_ret
      exact ⟨rfl, HBW.out⟩
end Go.Proofs.Ytgacfihidpijeaa.EV
set_option linter.unusedVariables false
namespace Go.Proofs.Ytgacfihidpijeaa.EV
open Go Go.RowKit Go.Proofs.Ytgacfihidpijeaa.MM Go.Proofs.Ytgacfihidpijeaa.EM

/-- The box of a batch that was handed over. -/
def btBox (w : World) (z : Int) (v : Value) : World := w.alloc (.cells #[.int .i64 z, v] 34)
theorem btbox_below (w : World) (z : Int) (v : Value) : Below w.heap.size w (btBox w z v) := (Below.refl _ _).alloc (Nat.le_refl _) _
theorem btbox_size (w : World) (z : Int) (v : Value) : (btBox w z v).heap.size = w.heap.size + 1 := by unfold btBox; simp
theorem btbox_in {w wr : World} {z : Int} {v : Value} (h : Below (btBox w z v).heap.size (btBox w z v) wr) : wr.cell? ⟨w.heap.size, 0, none⟩ = some (.int .i64 z) ∧ wr.cell? ⟨w.heap.size, 1, none⟩ = some v ∧ Below w.heap.size w wr :=
  ⟨(h.cell (p := ⟨w.heap.size, 0, none⟩) (by rw [btbox_size]; simp)).trans (new_two w _ _ _).1, (h.cell (p := ⟨w.heap.size, 1, none⟩) (by rw [btbox_size]; simp)).trans (new_two w _ _ _).2, (btbox_below w z v).trans (h.mono (by rw [btbox_size]; omega))⟩

set_option maxRecDepth 100000 in
set_option maxHeartbeats 4000000 in
theorem cbatch_any (seq : Int) (v : Value) (es : List Ev) (w : World) (hr : RAny evC w v es) : Calls Try.prog 19 #[.agg #[.int .i64 seq, v]] w (IntLeft (checkB (seq, es)) w) := by
  obtain ⟨p, cap, rfl, hlc, hcm, _⟩ := hr.shape
  unfold maxLen at hcm
  have HB := Lib.hid (Below.refl (btBox w seq (.slice p es.length cap)).heap.size (btBox w seq (.slice p es.length cap)))
  have HW := Lib.hid (btbox_below w seq (.slice p es.length cap))
  by_cases hz : es.length = 0
  · have e : checkB (seq, es) = 1 := by unfold checkB; rw [if_pos hz]
    rw [e]
    have t1 : ((es.length : Int) == 0) = true := by rw [beq_iff_eq]; omega
    clear e hr hz
    go_enter Try.func19, Try.ntmps19
    go_wp2_with fail
    go_ret
    exact ⟨rfl, HW.out⟩
  · have t1 : ((es.length : Int) == 0) = false := by rw [beq_eq_false_iff_ne]; omega
    by_cases h64 : 64 < es.length
    · have e : checkB (seq, es) = 3 := by unfold checkB; rw [if_neg hz, if_pos h64]
      rw [e]
      have t2 : decide ((es.length : Int) > 64) = true := by rw [decide_eq_true_eq]; omega
      clear e hr hz h64
      go_enter Try.func19, Try.ntmps19
      go_wp2_with fail
      go_ret
      exact ⟨rfl, HW.out⟩
    · have t2 : decide ((es.length : Int) > 64) = false := by rw [decide_eq_false_iff_not]; omega
      obtain ⟨RES, hRES⟩ : ∃ R, checkB (seq, es) = R := ⟨_, rfl⟩
      obtain ⟨CE, hCE⟩ : ∃ c, checkEs es = c := ⟨_, rfl⟩
      have hne : CE ≠ 0 → CE = RES := fun h => by rw [← hRES]; unfold checkB; rw [if_neg hz, if_neg h64, hCE, if_pos h]
      have hfin : CE = 0 → RES = if 65536 < sizeB es then 2 else if seq < 1 ∨ 1099511627776 - ((es.length : Int) - 1) < seq then 5 else 0 := fun h => by rw [← hRES]; unfold checkB; rw [if_neg hz, if_neg h64, if_neg (by rw [hCE]; simpa using h)]
      rw [hRES]
      have HNE := Lib.hid hne
      have HFIN := Lib.hid hfin
      have H0 : Hid (checkEs (es.drop 0) = CE) := Lib.hid hCE
      have HS0 : Hid (sizeB (es.take 0) = 0) := Lib.hid (by simp [sizeB])
      have HR := Lib.hid hr
      have h64' : es.length ≤ 64 := by omega
      have hz' : 1 ≤ es.length := by omega
      clear hne hfin hCE hRES hz h64 hr
      go_enter Try.func19, Try.ntmps19
      go_wp2_with fail
      go_loopw [4, 20] (fun sv iv wr => ∃ (i s : Nat), i ≤ es.length ∧ s ≤ i * 70000 ∧ iv = .int .i64 i ∧ sv = .int .i64 s ∧ Hid (checkEs (es.drop i) = CE) ∧ Hid (sizeB (es.take i) = s) ∧ Hid (Below (btBox w seq (.slice p es.length cap)).heap.size (btBox w seq (.slice p es.length cap)) wr)) (fun _ iv _ => es.length - (intOf iv).toNat)
      case atStart => exact ⟨0, 0, by omega, by omega, rfl, rfl, H0, HS0, HB⟩
      case round =>
        obtain ⟨i, s, hi, hs, rfl, rfl, HI, HSZ, HB1⟩ := hrel
        clear H0 HS0 HB
        obtain ⟨cq, cb, hbw⟩ := btbox_in HB1.out
        by_cases hlt : i < es.length
        · have q1 : decide ((i : Int) < (es.length : Int)) = true := by rw [decide_eq_true_eq]; omega
          have q2 : decide (i < es.length) = true := by rw [decide_eq_true_eq]; omega
          obtain ⟨b, off, vf, rfl, hbl, _, c1, c2, hf⟩ := ev_at (HR.out.below hbw) hlt
          have hnx := HI.out
          rw [checkEs_next hlt] at hnx
          have hsn := sizeB_next hlt
          rw [HSZ.out] at hsn
          obtain ⟨⟨z, fs⟩, hz2⟩ : ∃ e, es[i] = e := ⟨_, rfl⟩
          rw [hz2] at c1 hf hnx hsn
          change ROn fldC _ wr vf fs at hf
          change wr.cell? ⟨b, off + i * 2, none⟩ = some (.int .i64 z) at c1
          obtain ⟨pf, cf, rfl, _⟩ := hf.shape
          obtain ⟨c, hc⟩ : ∃ c, checkE (z, fs) = c := ⟨_, rfl⟩
          have HNX := Lib.hid hnx
          have HSN := Lib.hid hsn
          have HLT := Lib.hid hlt
          have HF := Lib.hid hf
          have HC := Lib.hid hc
          have hb0 : Below wr.heap.size wr (wr.alloc (.cells #[.int .i64 z, .slice pf fs.length cf] 24)) := (Below.refl _ _).alloc (Nat.le_refl _) _
          have hck := check_any z _ fs _ (RAny.below hf hb0)
          rw [hc] at hck
          have HCK := Lib.hid hck
          have HB0 := Lib.hid hb0
          have hwr := HB1.out.size
          clear hnx hsn hz2 hf hck hc hb0 HI HSZ hlt hbw
          go_wp2_with fail
          refine HCK.out.mono ?_
          rintro e w2 ⟨rfl, hb2⟩
          have HB2 := Lib.hid (HB1.out.trans ((grow HB0.out hb2).mono hwr))
          have n0 : w2.cell? ⟨wr.heap.size, 0, none⟩ = some (.int .i64 z) := (hb2.cell (p := ⟨wr.heap.size, 0, none⟩) (by simp)).trans (new_two wr _ _ _).1
          have n1 : w2.cell? ⟨wr.heap.size, 1, none⟩ = some (.slice pf fs.length cf) := (hb2.cell (p := ⟨wr.heap.size, 1, none⟩) (by simp)).trans (new_two wr _ _ _).2
          have HF2 := Lib.hid (RAny.below HF.out (grow HB0.out hb2))
          clear hb2 HCK c1 c2 cq cb
          by_cases h0 : c = 0
          · subst h0
            have hok := checkE_ok.1 HC.out
            have hsf : sizeF fs ≤ 4128 * fs.length := sizeF_of_ok hok.2
            have hk16 : fs.length ≤ 16 := hok.1
            have hnx := HNX.out
            rw [if_neg (by rw [HC.out]; simp)] at hnx
            have HN2 := Lib.hid hnx
            have hm : 16 + sizeF fs ≤ 70000 := by omega
            have hsw : sizeW fs = ((16 + sizeF fs : Nat) : Int) := sizeW_small (by omega)
            have hsz := size_any z _ fs _ HF2.out
            rw [hsw] at hsz
            have hsn := HSN.out
            change sizeB (es.take (i + 1)) = s + (16 + sizeF fs) at hsn
            generalize 16 + sizeF fs = m at *
            have HSZ2 := Lib.hid hsz
            have HSN2 := Lib.hid hsn
            clear hok hsf hnx hsw hsz hsn HSN HNX HC
            go_wp2_with fail
            refine HSZ2.out.mono ?_
            rintro e w3 ⟨rfl, hb3⟩
            have HB3 := Lib.hid (HB2.out.trans (hb3.mono HB2.out.size))
            clear hb3 HSZ2 n0 n1
            go_wp2_with fail
            have hlt := HLT.out
            go_roundw
            case rel => exact ⟨i + 1, s + m, by omega, by omega, by go_num, by go_num, HN2, HSN2, HB3⟩
            case measure => simp [intOf]; omega
          · have q3 : (c != 0) = true := by simp [h0]
            have hnx := HNX.out
            rw [if_pos (by rw [HC.out]; exact h0), HC.out] at hnx
            subst hnx
            have hce := HNE.out h0
            subst hce
            clear h0
            go_wp2_with fail
            go_ret
            exact ⟨rfl, (btbox_in HB2.out).2.2⟩
        · obtain rfl : i = es.length := by omega
          have q1 : decide ((es.length : Int) < (es.length : Int)) = false := by simp
          have q2 : decide (es.length < es.length) = false := by simp
          have hce := HI.out
          rw [List.drop_length] at hce
          have hce : (0 : Int) = CE := hce
          subst hce
          have hfin := HFIN.out rfl
          have hsz := HSZ.out
          rw [List.take_length] at hsz
          rw [hsz] at hfin
          have HBW := Lib.hid hbw
          clear hlt HI HSZ hbw hsz
          by_cases hbig : 65536 < s
          · rw [if_pos hbig] at hfin
            subst hfin
            have q3 : decide ((s : Int) > 65536) = true := by rw [decide_eq_true_eq]; omega
            clear hbig
            go_wp2_with fail
            go_ret
            exact ⟨rfl, HBW.out⟩
          · rw [if_neg hbig] at hfin
            have q3 : decide ((s : Int) > 65536) = false := by rw [decide_eq_false_iff_not]; omega
            by_cases hlo : seq < 1
            · rw [if_pos (.inl hlo)] at hfin
              subst hfin
              have q4 : decide (seq < 1) = true := by rw [decide_eq_true_eq]; exact hlo
              clear hbig hlo
              go_wp2_with fail
              go_ret
              exact ⟨rfl, HBW.out⟩
            · have q4 : decide (seq < 1) = false := by rw [decide_eq_false_iff_not]; exact hlo
              by_cases hhi : 1099511627776 - ((es.length : Int) - 1) < seq
              · rw [if_pos (.inr hhi)] at hfin
                subst hfin
                have q5 : decide (seq > 1099511627776 - ((es.length : Int) - 1)) = true := by rw [decide_eq_true_eq]; exact hhi
                clear hbig hlo hhi
                go_wp2_with fail
                go_ret
                exact ⟨rfl, HBW.out⟩
              · rw [if_neg (by omega)] at hfin
                subst hfin
                have q5 : decide (seq > 1099511627776 - ((es.length : Int) - 1)) = false := by rw [decide_eq_false_iff_not]; exact hhi
                clear hbig hlo hhi
                go_wp2_with fail
                go_ret
                exact ⟨rfl, HBW.out⟩

set_option maxRecDepth 100000 in
set_option maxHeartbeats 4000000 in
theorem rcbatch_any (seq : Int) (v : Value) (es : List Ev) (w : World) (hr : RAny evC w v es) : Calls Try.prog 20 #[.agg #[.int .i64 seq, v]] w (IntLeft (checkB (seq, es)) w) := by
  obtain ⟨p, cap, rfl, hlc, hcm, _⟩ := hr.shape
  unfold maxLen at hcm
  have HB := Lib.hid (Below.refl (btBox w seq (.slice p es.length cap)).heap.size (btBox w seq (.slice p es.length cap)))
  have HW := Lib.hid (btbox_below w seq (.slice p es.length cap))
  by_cases hz : es.length = 0
  · have e : checkB (seq, es) = 1 := by unfold checkB; rw [if_pos hz]
    rw [e]
    have t1 : ((es.length : Int) == 0) = true := by rw [beq_iff_eq]; omega
    clear e hr hz
    go_enter Try.func20, Try.ntmps20
    go_wp2_with fail
    go_ret
    exact ⟨rfl, HW.out⟩
  · have t1 : ((es.length : Int) == 0) = false := by rw [beq_eq_false_iff_ne]; omega
    by_cases h64 : 64 < es.length
    · have e : checkB (seq, es) = 3 := by unfold checkB; rw [if_neg hz, if_pos h64]
      rw [e]
      have t2 : decide ((es.length : Int) > 64) = true := by rw [decide_eq_true_eq]; omega
      clear e hr hz h64
      go_enter Try.func20, Try.ntmps20
      go_wp2_with fail
      go_ret
      exact ⟨rfl, HW.out⟩
    · have t2 : decide ((es.length : Int) > 64) = false := by rw [decide_eq_false_iff_not]; omega
      obtain ⟨RES, hRES⟩ : ∃ R, checkB (seq, es) = R := ⟨_, rfl⟩
      obtain ⟨CE, hCE⟩ : ∃ c, checkEs es = c := ⟨_, rfl⟩
      have hne : CE ≠ 0 → CE = RES := fun h => by rw [← hRES]; unfold checkB; rw [if_neg hz, if_neg h64, hCE, if_pos h]
      have hfin : CE = 0 → RES = if 65536 < sizeB es then 2 else if seq < 1 ∨ 1099511627776 - ((es.length : Int) - 1) < seq then 5 else 0 := fun h => by rw [← hRES]; unfold checkB; rw [if_neg hz, if_neg h64, if_neg (by rw [hCE]; simpa using h)]
      rw [hRES]
      have HNE := Lib.hid hne
      have HFIN := Lib.hid hfin
      have H0 : Hid (checkEs (es.drop 0) = CE) := Lib.hid hCE
      have HS0 : Hid (sizeB (es.take 0) = 0) := Lib.hid (by simp [sizeB])
      have HR := Lib.hid hr
      have h64' : es.length ≤ 64 := by omega
      have hz' : 1 ≤ es.length := by omega
      clear hne hfin hCE hRES hz h64 hr
      go_enter Try.func20, Try.ntmps20
      go_wp2_with fail
      go_loopw [3, 4] (fun sv iv wr => ∃ (i s : Nat), i ≤ es.length ∧ s ≤ i * 70000 ∧ iv = .int .i64 i ∧ sv = .int .i64 s ∧ Hid (checkEs (es.drop i) = CE) ∧ Hid (sizeB (es.take i) = s) ∧ Hid (Below (btBox w seq (.slice p es.length cap)).heap.size (btBox w seq (.slice p es.length cap)) wr)) (fun _ iv _ => es.length - (intOf iv).toNat)
      case atStart => exact ⟨0, 0, by omega, by omega, rfl, rfl, H0, HS0, HB⟩
      case round =>
        obtain ⟨i, s, hi, hs, rfl, rfl, HI, HSZ, HB1⟩ := hrel
        clear H0 HS0 HB
        obtain ⟨cq, cb, hbw⟩ := btbox_in HB1.out
        by_cases hlt : i < es.length
        · have q1 : decide ((i : Int) < (es.length : Int)) = true := by rw [decide_eq_true_eq]; omega
          have q2 : decide (i < es.length) = true := by rw [decide_eq_true_eq]; omega
          obtain ⟨b, off, vf, rfl, hbl, _, c1, c2, hf⟩ := ev_at (HR.out.below hbw) hlt
          have hnx := HI.out
          rw [checkEs_next hlt] at hnx
          have hsn := sizeB_next hlt
          rw [HSZ.out] at hsn
          obtain ⟨⟨z, fs⟩, hz2⟩ : ∃ e, es[i] = e := ⟨_, rfl⟩
          rw [hz2] at c1 hf hnx hsn
          change ROn fldC _ wr vf fs at hf
          change wr.cell? ⟨b, off + i * 2, none⟩ = some (.int .i64 z) at c1
          obtain ⟨pf, cf, rfl, _⟩ := hf.shape
          obtain ⟨c, hc⟩ : ∃ c, checkE (z, fs) = c := ⟨_, rfl⟩
          have HNX := Lib.hid hnx
          have HSN := Lib.hid hsn
          have HLT := Lib.hid hlt
          have HF := Lib.hid hf
          have HC := Lib.hid hc
          have hck := rcheck_any z _ fs _ hf
          rw [hc] at hck
          have HCK := Lib.hid hck
          have hwr := HB1.out.size
          rw [btbox_size] at hwr
          clear hnx hsn hz2 hf hck hc HI HSZ hlt
          go_wp2_with fail
          refine HCK.out.mono ?_
          rintro e w2 ⟨rfl, hb2⟩
          have HB2 := Lib.hid (HB1.out.trans (hb2.mono (by rw [btbox_size]; omega)))
          have n0 := (hb2.cell (p := ⟨b, off + i * 2, none⟩) hbl).trans c1
          have n1 := (hb2.cell (p := ⟨b, off + i * 2 + 1, none⟩) hbl).trans c2
          have n2 : w2.cell? ⟨w.heap.size, 1, none⟩ = some (.slice (some ⟨b, off, none⟩) es.length cap) := (hb2.cell (p := ⟨w.heap.size, 1, none⟩) (show w.heap.size < wr.heap.size by omega)).trans cb
          have HF2 := Lib.hid (RAny.below HF.out hb2)
          clear hb2 HCK c1 c2 cq cb hbw
          by_cases h0 : c = 0
          · subst h0
            have hok := checkE_ok.1 HC.out
            have hsf : sizeF fs ≤ 4128 * fs.length := sizeF_of_ok hok.2
            have hk16 : fs.length ≤ 16 := hok.1
            have hnx := HNX.out
            rw [if_neg (by rw [HC.out]; simp)] at hnx
            have HN2 := Lib.hid hnx
            have hm : 16 + sizeF fs ≤ 70000 := by omega
            have hsw : sizeW fs = ((16 + sizeF fs : Nat) : Int) := sizeW_small (by omega)
            have hsz := rsize_any z _ fs _ HF2.out
            rw [hsw] at hsz
            have hsn := HSN.out
            change sizeB (es.take (i + 1)) = s + (16 + sizeF fs) at hsn
            generalize 16 + sizeF fs = m at *
            have HSZ2 := Lib.hid hsz
            have HSN2 := Lib.hid hsn
            clear hok hsf hnx hsw hsz hsn HSN HNX HC
            go_wp2_with fail
            refine HSZ2.out.mono ?_
            rintro e w3 ⟨rfl, hb3⟩
            have HB3 := Lib.hid (HB2.out.trans (hb3.mono HB2.out.size))
            clear hb3 HSZ2 n0 n1
            go_wp2_with fail
            have hlt := HLT.out
            go_roundw
            case rel => exact ⟨i + 1, s + m, by omega, by omega, by go_num, by go_num, HN2, HSN2, HB3⟩
            case measure => simp [intOf]; omega
          · have q3 : (c != 0) = true := by simp [h0]
            have hnx := HNX.out
            rw [if_pos (by rw [HC.out]; exact h0), HC.out] at hnx
            subst hnx
            have hce := HNE.out h0
            subst hce
            clear h0
            go_wp2_with fail
            go_ret
            exact ⟨rfl, (btbox_in HB2.out).2.2⟩
        · obtain rfl : i = es.length := by omega
          have q1 : decide ((es.length : Int) < (es.length : Int)) = false := by simp
          have q2 : decide (es.length < es.length) = false := by simp
          have hce := HI.out
          rw [List.drop_length] at hce
          have hce : (0 : Int) = CE := hce
          subst hce
          have hfin := HFIN.out rfl
          have hsz := HSZ.out
          rw [List.take_length] at hsz
          rw [hsz] at hfin
          have HBW := Lib.hid hbw
          clear hlt HI HSZ hbw hsz
          by_cases hbig : 65536 < s
          · rw [if_pos hbig] at hfin
            subst hfin
            have q3 : decide ((s : Int) > 65536) = true := by rw [decide_eq_true_eq]; omega
            clear hbig
            go_wp2_with fail
            go_ret
            exact ⟨rfl, HBW.out⟩
          · rw [if_neg hbig] at hfin
            have q3 : decide ((s : Int) > 65536) = false := by rw [decide_eq_false_iff_not]; omega
            by_cases hlo : seq < 1
            · rw [if_pos (.inl hlo)] at hfin
              subst hfin
              have q4 : decide (seq < 1) = true := by rw [decide_eq_true_eq]; exact hlo
              clear hbig hlo
              go_wp2_with fail
              go_ret
              exact ⟨rfl, HBW.out⟩
            · have q4 : decide (seq < 1) = false := by rw [decide_eq_false_iff_not]; exact hlo
              by_cases hhi : 1099511627776 - ((es.length : Int) - 1) < seq
              · rw [if_pos (.inr hhi)] at hfin
                subst hfin
                have q5 : decide (seq > 1099511627776 - ((es.length : Int) - 1)) = true := by rw [decide_eq_true_eq]; exact hhi
                clear hbig hlo hhi
                go_wp2_with fail
                go_ret
                exact ⟨rfl, HBW.out⟩
              · rw [if_neg (by omega)] at hfin
                subst hfin
                have q5 : decide (seq > 1099511627776 - ((es.length : Int) - 1)) = false := by rw [decide_eq_false_iff_not]; exact hhi
                clear hbig hlo hhi
                go_wp2_with fail
                go_ret
                exact ⟨rfl, HBW.out⟩
end Go.Proofs.Ytgacfihidpijeaa.EV
