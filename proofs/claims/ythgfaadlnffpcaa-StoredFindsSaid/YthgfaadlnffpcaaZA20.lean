/-
  Are two events the same: the code's Same (by slices.Equal) and the reference's. No condition.
-/
import Derived.Test.YthgfaadlnffpcaaZA19
import Derived.Test.YthgfaadlnffpcaaZA12
set_option linter.unusedVariables false
namespace Go.Proofs.Ythgfaadlnffpcaa.EV
open Go Go.RowKit Go.Proofs.Ythgfaadlnffpcaa.MM Go.Proofs.Ythgfaadlnffpcaa.EM

def BoolLeft (b : Bool) (w : World) (e : Ending) (w' : World) : Prop := e = .returned (.bool b) ∧ Below w.heap.size w w'
theorem drop_same {α : Type} [DecidableEq α] {a b : List α} {i : Nat} (ha : i < a.length) (hb : i < b.length) : decide (a.drop i = b.drop i) = (decide (a[i] = b[i]) && decide (a.drop (i + 1) = b.drop (i + 1))) := by
  rw [List.drop_eq_getElem_cons ha, List.drop_eq_getElem_cons hb]
  rw [Bool.eq_iff_iff, decide_eq_true_eq, Bool.and_eq_true, decide_eq_true_eq, decide_eq_true_eq, List.cons.injEq]
/-- Two fields held against each other. -/
theorem eq_fld (X1 X2 Y1 Y2 : List UInt8) (W : World) : (Op.equalIn 10000 83 (.agg #[.string ⟨X1.toArray⟩, .string ⟨X2.toArray⟩]) (.agg #[.string ⟨Y1.toArray⟩, .string ⟨Y2.toArray⟩])).run Try.prog W = .ok (decide (X1 = Y1) && decide (X2 = Y2)) W := by
  have s1 := same_list X1 Y1
  have s2 := same_list X2 Y2
  have ht : Try.prog.underlying 83 = some (.struct (Try.prog.fieldsOf 83)) := by kernel_rfl
  have hp : Try.prog.stoodInHeld 83 = false := by kernel_rfl
  have hf : (Try.prog.fieldsOf 83).toList.map (fun f => (f.name == "_", f.type, f.offset)) = [(false, 9, 0), (false, 9, 1)] := by kernel_rfl
  rw [show (10000 : Nat) = 9998 + 1 + 1 from rfl, run_equalIn_struct W _ _ _ _ ht hp]
  generalize (Try.prog.fieldsOf 83).toList = fs at hf
  obtain ⟨f0, f1, rfl⟩ : ∃ a b, fs = [a, b] := by
    have hl := congrArg List.length hf
    rw [List.length_map] at hl
    match fs, hl with
    | [a, b], _ => exact ⟨a, b, rfl⟩
  simp only [List.map_cons, List.map_nil, List.cons.injEq, Prod.mk.injEq, and_true] at hf
  obtain ⟨⟨n0, t0, o0⟩, ⟨n1, t1, o1⟩⟩ := hf
  have n0 : f0.name ≠ "_" := by simpa using n0
  have n1 : f1.name ≠ "_" := by simpa using n1
  have a9 := Try.isAgg9
  have z9 := Try.sizeOf9
  have u9 := Try.underlying9
  simp only [Op.eqFields, n0, n1, t0, t1, o0, o1, ne_eq, not_false_eq_true, if_true]
  go_simp
  by_cases h1 : X1 = Y1 <;> by_cases h2 : X2 = Y2 <;> simp [s1, s2, h1, h2]

set_option maxRecDepth 100000 in
set_option maxHeartbeats 2000000 in
theorem equal_any (u v : Value) (xs ys : List Fld) (w : World) (hu : RAny fldC w u xs) (hv : RAny fldC w v ys) : Calls Try.prog 49 #[u, v] w (BoolLeft (decide (xs = ys)) w) := by
  obtain ⟨p1, cap1, rfl, hl1, hm1, _⟩ := hu.shape
  obtain ⟨p2, cap2, rfl, hl2, hm2, _⟩ := hv.shape
  unfold maxLen at hm1 hm2
  by_cases hn : xs.length = ys.length
  · have t0 : (((xs.length : Int)) != ((ys.length : Int))) = false := by simp [hn]
    obtain ⟨n, hnn⟩ : ∃ n, xs.length = n := ⟨_, rfl⟩
    have hnb : ys.length = n := by omega
    obtain ⟨RES, hRES⟩ : ∃ RES, decide (xs = ys) = RES := ⟨_, rfl⟩
    have h0 : decide (xs.drop 0 = ys.drop 0) = RES := hRES
    rw [hRES]
    have H0 := Lib.hid h0
    have HU := Lib.hid hu
    have HV := Lib.hid hv
    have HNA := Lib.hid hnn
    have HNB := Lib.hid hnb
    rw [hnn, hnb] at t0 
    rw [hnn] at hl1 ⊢
    rw [hnb] at hl2 ⊢
    clear h0 hu hv hRES hn hnn hnb
    go_enter Try.func49, Try.ntmps49
    go_wp2_with fail
    go_loopw [13] (fun iv wr => ∃ i : Nat, i ≤ n ∧ iv = .int .i64 i ∧ Hid (decide (xs.drop i = ys.drop i) = RES) ∧ Hid (Below w.heap.size w wr)) (fun iv _ => n - (intOf iv).toNat)
    case atStart => exact ⟨0, by omega, rfl, H0, Lib.hid (Below.refl _ _)⟩
    case round =>
      obtain ⟨i, hi, rfl, HI, HB⟩ := hrel
      clear H0
      by_cases hlt : i < n
      · have q1 : decide ((i : Int) < (n : Int)) = true := by rw [decide_eq_true_eq]; omega
        have q2 : decide (i < n) = true := by rw [decide_eq_true_eq]; omega
        have q3 : (i : Int) < n := by omega
        have ha : i < xs.length := by rw [HNA.out]; exact hlt
        have hb : i < ys.length := by rw [HNB.out]; exact hlt
        have hu1 := HU.out.below HB.out
        have hv1 := HV.out.below HB.out
        rw [HNA.out] at hu1
        rw [HNB.out] at hv1
        obtain ⟨b1, o1, rfl, hb1, _, c1, c2⟩ := fld_at hu1 ha
        obtain ⟨b2, o2, rfl, hb2, _, c3, c4⟩ := fld_at hv1 hb
        have hnx := HI.out
        rw [drop_same ha hb] at hnx
        generalize xs[i] = X at *
        generalize ys[i] = Y at *
        clear HI hu1 hv1 ha hb
        have heq := eq_fld X.1 X.2 Y.1 Y.2
        have hd : decide (X = Y) = (decide (X.1 = Y.1) && decide (X.2 = Y.2)) := by
          rw [Bool.eq_iff_iff, decide_eq_true_eq, Bool.and_eq_true, decide_eq_true_eq, decide_eq_true_eq]
          exact Prod.ext_iff
        rw [hd] at hnx
        obtain ⟨X1, X2⟩ := X
        obtain ⟨Y1, Y2⟩ := Y
        dsimp only at *
        generalize decide (X1 = Y1) = d1 at *
        generalize decide (X2 = Y2) = d2 at *
        have HN := Lib.hid hnx
        have HLT := Lib.hid hlt
        clear hnx hd hlt
        cases d1 <;> cases d2
        case true.true =>
          have hn := HN.out
          rw [Bool.true_and, Bool.true_and] at hn
          have HN2 := Lib.hid hn
          clear HN hn
          go_wp2_with fail
          go_quiet (fail)
          go_wp2_with fail
          have hlt := HLT.out
          go_roundw
          case rel => exact ⟨i + 1, by omega, by go_num, HN2, Lib.hid (MM.below_drewN HB.out _)⟩
          case measure => simp [intOf]; omega
        all_goals
          have hn := HN.out
          simp only [Bool.false_and, Bool.and_false] at hn
          subst hn
          clear HN
          go_wp2_with fail
          go_quiet (fail)
          go_wp2_with fail
          go_ret
          exact ⟨rfl, MM.below_drewN HB.out _⟩
      · obtain rfl : i = n := by omega
        have q1 : decide ((i : Int) < (i : Int)) = false := by simp
        have q2 : decide (i < i) = false := by simp
        have hf : RES = true := by
          rw [← HI.out, List.drop_of_length_le (by rw [HNA.out]; exact Nat.le_refl _), List.drop_of_length_le (by rw [HNB.out]; exact Nat.le_refl _)]
          simp
        subst hf
        clear HI
        go_wp2_with fail
        go_ret
        exact ⟨rfl, HB.out⟩
  · have t0 : (((xs.length : Int)) != ((ys.length : Int))) = true := by simp; omega
    have e : decide (xs = ys) = false := decide_eq_false fun h => hn (by rw [h])
    rw [e]
    clear hu hv e hn
    go_enter Try.func49, Try.ntmps49
    go_wp2_with fail
    go_ret
    exact ⟨rfl, Below.refl _ _⟩

/-! ### events -/
theorem two_boxes (w : World) (z1 z2 : Int) (u v : Value) : Below w.heap.size w (evBox (evBox w z1 u) z2 v) := (box_below w z1 u).trans ((box_below _ z2 v).mono (by rw [box_size]; omega))
theorem boxes_in {w wr : World} {z1 z2 : Int} {u v : Value} (h : Below (evBox (evBox w z1 u) z2 v).heap.size (evBox (evBox w z1 u) z2 v) wr) :
    wr.cell? ⟨w.heap.size, 0, none⟩ = some (.int .i64 z1) ∧ wr.cell? ⟨w.heap.size, 1, none⟩ = some u ∧ wr.cell? ⟨w.heap.size + 1, 0, none⟩ = some (.int .i64 z2) ∧ wr.cell? ⟨w.heap.size + 1, 1, none⟩ = some v ∧ Below w.heap.size w wr := by
  obtain ⟨h1, h2, h3⟩ := box_in h
  rw [box_size] at h1 h2
  have h4 := box_in (w := w) (z := z1) (v := u) (wr := wr) (by rw [box_size] at h3 ⊢; exact h3)
  exact ⟨h4.1, h4.2.1, h1, h2, h4.2.2⟩
theorem ev_same (z1 z2 : Int) (xs ys : List Fld) : decide ((z1, xs) = (z2, ys)) = ((z1 == z2) && decide (xs = ys)) := by
  rw [Bool.eq_iff_iff]
  simp
set_option maxRecDepth 100000 in
set_option maxHeartbeats 2000000 in
theorem same_any (z1 z2 : Int) (u v : Value) (xs ys : List Fld) (w : World) (hu : RAny fldC w u xs) (hv : RAny fldC w v ys) : Calls Try.prog 32 #[.agg #[.int .i64 z1, u], .agg #[.int .i64 z2, v]] w (BoolLeft (decide ((z1, xs) = (z2, ys))) w) := by
  have HB := Lib.hid (two_boxes w z1 z2 u v)
  have HE := Lib.hid (equal_any u v xs ys _ (hu.below HB.out) (hv.below HB.out))
  rw [ev_same]
  obtain ⟨p1, cap1, rfl, hl1, hm1, _⟩ := hu.shape
  obtain ⟨p2, cap2, rfl, hl2, hm2, _⟩ := hv.shape
  generalize decide (xs = ys) = d at *
  clear hu hv hl1 hl2 hm1 hm2
  by_cases h : z1 = z2
  · have t1 : (z1 == z2) = true := by simp [h]
    rw [t1, Bool.true_and]
    clear h
    go_enter Try.func32, Try.ntmps32
    go_wp2_with fail
    refine HE.out.mono ?_
    rintro e w2 ⟨rfl, hb2⟩
    have HB2 := Lib.hid (grow HB.out hb2)
    clear hb2 HE
    go_wp2_with fail
    go_ret
    exact ⟨rfl, HB2.out⟩
  · have t1 : (z1 == z2) = false := by simp [h]
    rw [t1, Bool.false_and]
    clear h HE
    go_enter Try.func32, Try.ntmps32
    go_wp2_with fail
    go_ret
    exact ⟨rfl, HB.out⟩

set_option maxRecDepth 100000 in
set_option maxHeartbeats 4000000 in
theorem rsame_any (z1 z2 : Int) (u v : Value) (xs ys : List Fld) (w : World) (hu : RAny fldC w u xs) (hv : RAny fldC w v ys) : Calls Try.prog 33 #[.agg #[.int .i64 z1, u], .agg #[.int .i64 z2, v]] w (BoolLeft (decide ((z1, xs) = (z2, ys))) w) := by
  have HB := Lib.hid (two_boxes w z1 z2 u v)
  rw [ev_same]
  obtain ⟨p1, cap1, rfl, hl1, hm1, _⟩ := hu.shape
  obtain ⟨p2, cap2, rfl, hl2, hm2, _⟩ := hv.shape
  unfold maxLen at hm1 hm2
  by_cases h : z1 = z2
  · have t1 : (z1 != z2) = false := by simp [h]
    have e1 : (z1 == z2) = true := by simp [h]
    rw [e1, Bool.true_and]
    by_cases hn : xs.length = ys.length
    · have t0 : (((xs.length : Int)) != ((ys.length : Int))) = false := by simp [hn]
      obtain ⟨n, hnn⟩ : ∃ n, xs.length = n := ⟨_, rfl⟩
      have hnb : ys.length = n := by omega
      obtain ⟨RES, hRES⟩ : ∃ RES, decide (xs = ys) = RES := ⟨_, rfl⟩
      have h0 : decide (xs.drop 0 = ys.drop 0) = RES := hRES
      rw [hRES]
      have H0 := Lib.hid h0
      have HU := Lib.hid hu
      have HV := Lib.hid hv
      have HNA := Lib.hid hnn
      have HNB := Lib.hid hnb
      rw [hnn, hnb] at t0
      rw [hnn] at hl1 HB ⊢
      rw [hnb] at hl2 HB ⊢
      have HBB := Lib.hid (Below.refl (evBox (evBox w z1 (.slice p1 n cap1)) z2 (.slice p2 n cap2)).heap.size (evBox (evBox w z1 (.slice p1 n cap1)) z2 (.slice p2 n cap2)))
      clear h0 hu hv hRES hn hnn hnb h e1
      go_enter Try.func33, Try.ntmps33
      go_wp2_with fail
      go_loopw [5] (fun iv wr => ∃ i : Nat, i ≤ n ∧ iv = .int .i64 i ∧ Hid (decide (xs.drop i = ys.drop i) = RES) ∧ Hid (Below (evBox (evBox w z1 (.slice p1 n cap1)) z2 (.slice p2 n cap2)).heap.size (evBox (evBox w z1 (.slice p1 n cap1)) z2 (.slice p2 n cap2)) wr)) (fun iv _ => n - (intOf iv).toNat)
      case atStart => exact ⟨0, by omega, rfl, H0, HBB⟩
      case round =>
        obtain ⟨i, hi, rfl, HI, HB1⟩ := hrel
        clear H0 HBB
        obtain ⟨_, k1, _, k2, hbw⟩ := boxes_in HB1.out
        by_cases hlt : i < n
        · have q1 : decide ((i : Int) < (n : Int)) = true := by rw [decide_eq_true_eq]; omega
          have q2 : decide (i < n) = true := by rw [decide_eq_true_eq]; omega
          have q3 : (i : Int) < n := by omega
          have ha : i < xs.length := by rw [HNA.out]; exact hlt
          have hb : i < ys.length := by rw [HNB.out]; exact hlt
          have hu1 := HU.out.below hbw
          have hv1 := HV.out.below hbw
          rw [HNA.out] at hu1
          rw [HNB.out] at hv1
          obtain ⟨b1, o1, rfl, hb1, _, c1, c2⟩ := fld_at hu1 ha
          obtain ⟨b2, o2, rfl, hb2, _, c3, c4⟩ := fld_at hv1 hb
          have hnx := HI.out
          rw [drop_same ha hb] at hnx
          generalize xs[i] = X at *
          generalize ys[i] = Y at *
          have heq := eq_fld X.1 X.2 Y.1 Y.2
          have hd : decide (X = Y) = (decide (X.1 = Y.1) && decide (X.2 = Y.2)) := by
            rw [Bool.eq_iff_iff, decide_eq_true_eq, Bool.and_eq_true, decide_eq_true_eq, decide_eq_true_eq]
            exact Prod.ext_iff
          rw [hd] at hnx
          obtain ⟨X1, X2⟩ := X
          obtain ⟨Y1, Y2⟩ := Y
          dsimp only at *
          generalize decide (X1 = Y1) = d1 at *
          generalize decide (X2 = Y2) = d2 at *
          have HN := Lib.hid hnx
          have HLT := Lib.hid hlt
          have HBW := Lib.hid hbw
          clear hnx hd hlt hu1 hv1 ha hb HI hbw
          cases d1 <;> cases d2
          case true.true =>
            have hn := HN.out
            rw [Bool.true_and, Bool.true_and] at hn
            have HN2 := Lib.hid hn
            clear HN hn
            go_wp2_with fail
            go_quiet (fail)
            go_wp2_with fail
            have hlt := HLT.out
            go_roundw
            case rel => exact ⟨i + 1, by omega, by go_num, HN2, Lib.hid (MM.below_drewN HB1.out _)⟩
            case measure => simp [intOf]; omega
          all_goals
            have hn := HN.out
            simp only [Bool.false_and, Bool.and_false] at hn
            subst hn
            clear HN
            go_wp2_with fail
            go_quiet (fail)
            go_wp2_with fail
            go_ret
            exact ⟨rfl, MM.below_drewN HBW.out _⟩
        · obtain rfl : i = n := by omega
          have q1 : decide ((i : Int) < (i : Int)) = false := by simp
          have q2 : decide (i < i) = false := by simp
          have hf : RES = true := by
            rw [← HI.out, List.drop_of_length_le (by rw [HNA.out]; exact Nat.le_refl _), List.drop_of_length_le (by rw [HNB.out]; exact Nat.le_refl _)]
            simp
          subst hf
          have HBW := Lib.hid hbw
          clear HI hbw
          go_wp2_with fail
          go_ret
          exact ⟨rfl, HBW.out⟩
    · have t0 : (((xs.length : Int)) != ((ys.length : Int))) = true := by simp; omega
      have e : decide (xs = ys) = false := decide_eq_false fun h => hn (by rw [h])
      rw [e]
      clear hu hv e hn h e1
      go_enter Try.func33, Try.ntmps33
      go_wp2_with fail
      go_ret
      exact ⟨rfl, HB.out⟩
  · have t1 : (z1 != z2) = true := by simp [h]
    have e1 : (z1 == z2) = false := by simp [h]
    rw [e1, Bool.false_and]
    clear h hu hv e1
    go_enter Try.func33, Try.ntmps33
    go_wp2_with fail
    go_ret
    exact ⟨rfl, HB.out⟩
end Go.Proofs.Ythgfaadlnffpcaa.EV
