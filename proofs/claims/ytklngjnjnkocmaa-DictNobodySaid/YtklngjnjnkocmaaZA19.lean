/-
  The reference's place and shared, Same, Get, Floor. Condition: texts of at most 10^12 bytes.
-/
import Derived.Test.YtklngjnjnkocmaaZA12
import Derived.Test.YtklngjnjnkocmaaZA18
import Derived.Test.YtklngjnjnkocmaaZA2
set_option linter.unusedVariables false
namespace Go.Proofs.Ytklngjnjnkocmaa.DT
open Go Go.RowKit Go.Proofs.Ytklngjnjnkocmaa.MM Go.Proofs.Ytklngjnjnkocmaa.DM
open Go.Proofs.Ytklngjnjnkocmaa.EM (lessL less_bytes)

set_option maxRecDepth 100000 in
theorem rplace_any (z : Int) (w : World) : Calls Try.prog 52 #[.int .i64 z] w fun e w' => e = .returned (.bool (placeOk z)) ∧ w' = w := by
  unfold placeOk
  by_cases h : 0 ≤ z
  · have t1 : decide (0 ≤ z) = true := by simpa using h
    have t2 : decide (z ≥ 0) = true := t1
    by_cases h2 : z ≤ 67108864
    · have t3 : decide (z ≤ 67108864) = true := by simpa using h2
      rw [t1, t3]
      clear h h2
      go_enter Try.func52, Try.ntmps52
      go_wp2_with fail
      go_ret
      exact ⟨rfl, rfl⟩
    · have t3 : decide (z ≤ 67108864) = false := by simpa using h2
      rw [t1, t3]
      clear h h2
      go_enter Try.func52, Try.ntmps52
      go_wp2_with fail
      go_ret
      exact ⟨rfl, rfl⟩
  · have t1 : decide (0 ≤ z) = false := by simpa using h
    have t2 : decide (z ≥ 0) = false := t1
    rw [t1, Bool.false_and]
    clear h
    go_enter Try.func52, Try.ntmps52
    go_wp2_with fail
    go_ret
    exact ⟨rfl, rfl⟩

theorem alike_more {a b : List UInt8} {k : Nat} {x : UInt8} (h : ∀ i, i < k → a[i]? = b[i]?) (hx : a[k]? = some x) (hy : b[k]? = some x) : ∀ i, i < k + 1 → a[i]? = b[i]? := fun i hi => by
  by_cases e : i = k
  · rw [e, hx, hy]
  · exact h i (by omega)

set_option maxRecDepth 100000 in
set_option maxHeartbeats 2000000 in
theorem rshared_any (a b : List UInt8) (w : World) (ha : a.length ≤ 1000000000000) (hb : b.length ≤ 1000000000000) : Calls Try.prog 54 #[.string ⟨a.toArray⟩, .string ⟨b.toArray⟩] w fun e w' => e = .returned (.int .i64 (sharedL a b : Int)) ∧ ∃ m, w' = w.drewN m := by
  obtain ⟨s, hs⟩ : ∃ s : ByteArray, (⟨a.toArray⟩ : ByteArray) = s := ⟨_, rfl⟩
  obtain ⟨t, ht⟩ : ∃ s : ByteArray, (⟨b.toArray⟩ : ByteArray) = s := ⟨_, rfl⟩
  have hls : s.data.toList = a := by rw [← hs]
  have hlt : t.data.toList = b := by rw [← ht]
  rw [hs, ht]
  have HEND := Lib.hid (fun k => @sharedL_at a b k)
  obtain ⟨RES, hRES⟩ : ∃ RES, sharedL a b = RES := ⟨_, rfl⟩
  rw [hRES] at HEND ⊢
  have HS := Lib.hid hls
  have HT := Lib.hid hlt
  have HS1 := Lib.hid (text_size hls)
  have HT1 := Lib.hid (text_size hlt)
  clear hs ht hls hlt hRES
  go_enter Try.func54, Try.ntmps54
  go_wp2_with fail
  go_loopw [5] (fun iv wr => ∃ i : Nat, i ≤ a.length ∧ i ≤ b.length ∧ iv = .int .i64 i ∧ Hid (∀ j, j < i → a[j]? = b[j]?) ∧ Hid (∃ m, wr = w.drewN m)) (fun iv _ => a.length - (intOf iv).toNat)
  case atStart => exact ⟨0, by omega, by omega, rfl, Lib.hid (fun j h => by omega), Lib.hid ⟨0, rfl⟩⟩
  case round =>
    obtain ⟨i, hia, hib, rfl, HI, HB⟩ := hrel
    have e1 := HS1.out
    have e2 := HT1.out
    by_cases h1 : i < a.length
    · have q1 : decide ((i : Int) < (s.size : Int)) = true := by rw [decide_eq_true_eq]; omega
      have q2 : decide (i < s.size) = true := by rw [decide_eq_true_eq]; omega
      by_cases h2 : i < b.length
      · have q3 : decide ((i : Int) < (t.size : Int)) = true := by rw [decide_eq_true_eq]; omega
        have q4 : decide (i < t.size) = true := by rw [decide_eq_true_eq]; omega
        obtain ⟨x8, hx8⟩ : ∃ c, a[i]? = some c := ⟨a[i], List.getElem?_eq_getElem h1⟩
        obtain ⟨y8, hy8⟩ : ∃ c, b[i]? = some c := ⟨b[i], List.getElem?_eq_getElem h2⟩
        have hix := text_index HS.out hx8
        have hiy := text_index HT.out hy8
        by_cases hxy : x8 = y8
        · subst hxy
          have HN := Lib.hid (alike_more HI.out hx8 hy8)
          have HH := Lib.hid (And.intro h1 h2)
          generalize x8.toNat = x at *
          clear HI e1 e2 h1 h2 hx8 hy8
          go_wp2_with fail
          go_quiet (fail)
          go_wp2_with fail
          have hh := HH.out
          go_roundw
          case rel => exact ⟨i + 1, by omega, by omega, by go_num, HN, Lib.hid (drewN_more HB.out _)⟩
          case measure => simp [intOf]; omega
        · have he := HEND.out i hia hib HI.out (fun _ _ e => hxy (by rw [hx8, hy8] at e; exact Option.some.inj e))
          have q5 : ((x8.toNat : Int) == (y8.toNat : Int)) = false := by rw [beq_eq_false_iff_ne]; exact fun e => hxy (UInt8.toNat_inj.1 (by omega))
          subst he
          generalize x8.toNat = x at *
          generalize y8.toNat = y at *
          clear HI e1 e2 h1 h2 hxy hx8 hy8
          go_wp2_with fail
          go_quiet (fail)
          go_wp2_with fail
          go_ret
          exact ⟨rfl, drewN_more HB.out _⟩
      · have q3 : decide ((i : Int) < (t.size : Int)) = false := by rw [decide_eq_false_iff_not]; omega
        have q4 : decide (i < t.size) = false := by rw [decide_eq_false_iff_not]; omega
        have he := HEND.out i hia hib HI.out (fun _ h => absurd h h2)
        subst he
        clear HI e1 e2 h1 h2
        go_wp2_with fail
        go_quiet (fail)
        go_wp2_with fail
        go_ret
        exact ⟨rfl, drewN_more HB.out _⟩
    · have q1 : decide ((i : Int) < (s.size : Int)) = false := by rw [decide_eq_false_iff_not]; omega
      have q2 : decide (i < s.size) = false := by rw [decide_eq_false_iff_not]; omega
      have he := HEND.out i hia hib HI.out (fun h => absurd h h1)
      subst he
      clear HI e1 e2 h1
      go_wp2_with fail
      go_quiet (fail)
      go_wp2_with fail
      go_ret
      exact ⟨rfl, drewN_more HB.out _⟩

/-! ### Same -/
theorem row_step {α : Type} [DecidableEq α] {a b : List α} {i : Nat} (ha : i < a.length) (hb : i < b.length) : decide (a.drop i = b.drop i) = (decide (a[i] = b[i]) && decide (a.drop (i + 1) = b.drop (i + 1))) := by
  rw [List.drop_eq_getElem_cons ha, List.drop_eq_getElem_cons hb]
  rw [Bool.eq_iff_iff, decide_eq_true_eq, Bool.and_eq_true, decide_eq_true_eq, decide_eq_true_eq, List.cons.injEq]
/-- Two entries held against each other. -/
theorem eq_ent (x y : Ent) (W : World) : (Op.equalIn 10000 42 (.agg #[.string ⟨x.1.toArray⟩, .int .i64 x.2.1, .int .i64 x.2.2.1, .int .i64 x.2.2.2]) (.agg #[.string ⟨y.1.toArray⟩, .int .i64 y.2.1, .int .i64 y.2.2.1, .int .i64 y.2.2.2])).run Try.prog W = .ok (decide (x = y)) W := by
  obtain ⟨x1, x2, x3, x4⟩ := x
  obtain ⟨y1, y2, y3, y4⟩ := y
  dsimp only
  have ht : Try.prog.underlying 42 = some (.struct (Try.prog.fieldsOf 42)) := by kernel_rfl
  have hp : Try.prog.stoodInHeld 42 = false := by kernel_rfl
  have hf : (Try.prog.fieldsOf 42).toList.map (fun f => (f.name == "_", f.type, f.offset)) = [(false, 9, 0), (false, 3, 1), (false, 3, 2), (false, 3, 3)] := by kernel_rfl
  rw [show (10000 : Nat) = 9998 + 1 + 1 from rfl, run_equalIn_struct W _ _ _ _ ht hp]
  generalize (Try.prog.fieldsOf 42).toList = fs at hf
  obtain ⟨f0, f1, f2, f3, rfl⟩ : ∃ a b c d, fs = [a, b, c, d] := by
    have hl := congrArg List.length hf
    rw [List.length_map] at hl
    match fs, hl with
    | [a, b, c, d], _ => exact ⟨a, b, c, d, rfl⟩
  simp only [List.map_cons, List.map_nil, List.cons.injEq, Prod.mk.injEq, and_true] at hf
  obtain ⟨⟨n0, t0, o0⟩, ⟨n1, t1, o1⟩, ⟨n2, t2, o2⟩, ⟨n3, t3, o3⟩⟩ := hf
  have n0 : f0.name ≠ "_" := by simpa using n0
  have n1 : f1.name ≠ "_" := by simpa using n1
  have n2 : f2.name ≠ "_" := by simpa using n2
  have n3 : f3.name ≠ "_" := by simpa using n3
  have a9 := Try.isAgg9
  have z9 := Try.sizeOf9
  have u9 := Try.underlying9
  have a8 := Try.isAgg3
  have z8 := Try.sizeOf3
  have u8 := Try.underlying3
  simp only [Op.eqFields, n0, n1, n2, n3, t0, t1, t2, t3, o0, o1, o2, o3, ne_eq, not_false_eq_true, if_true]
  go_simp
  by_cases h1 : x1 = y1 <;> by_cases h2 : x2 = y2 <;> by_cases h3 : x3 = y3 <;> by_cases h4 : x4 = y4 <;> simp [h1, h2, h3, h4]

set_option maxRecDepth 100000 in
set_option maxHeartbeats 2000000 in
theorem rsame_any (u v : Value) (xs ys : List Ent) (w : World) (hu : RAny entC w u xs) (hv : RAny entC w v ys) : Calls Try.prog 13 #[u, v] w fun e w' => e = .returned (.bool (decide (xs = ys))) ∧ Below w.heap.size w w' := by
  obtain ⟨p1, cap1, rfl, hl1, hm1, _⟩ := hu.shape
  obtain ⟨p2, cap2, rfl, hl2, hm2, _⟩ := hv.shape
  unfold maxLen at hm1 hm2
  by_cases hn : xs.length = ys.length
  · have t0 : (((xs.length : Int)) != ((ys.length : Int))) = false := by simp [hn]
    obtain ⟨n, hnn⟩ : ∃ n, xs.length = n := ⟨_, rfl⟩
    have hnb : ys.length = n := by omega
    obtain ⟨RES, hRES⟩ : ∃ RES, decide (xs = ys) = RES := ⟨_, rfl⟩
    have h0 : decide (xs.drop 0 = ys.drop 0) = RES := hRES
    rw [hRES]
    have H0 := Lib.hid h0
    have HU := Lib.hid hu
    have HV := Lib.hid hv
    have HNA := Lib.hid hnn
    have HNB := Lib.hid hnb
    rw [hnn, hnb] at t0
    rw [hnn] at hl1 ⊢
    rw [hnb] at hl2 ⊢
    clear h0 hu hv hRES hn hnn hnb
    go_enter Try.func13, Try.ntmps13
    go_wp2_with fail
    go_loopw [5] (fun iv wr => ∃ i : Nat, i ≤ n ∧ iv = .int .i64 i ∧ Hid (decide (xs.drop i = ys.drop i) = RES) ∧ Hid (Below w.heap.size w wr)) (fun iv _ => n - (intOf iv).toNat)
    case atStart => exact ⟨0, by omega, rfl, H0, Lib.hid (Below.refl _ _)⟩
    case round =>
      obtain ⟨i, hi, rfl, HI, HB⟩ := hrel
      clear H0
      by_cases hlt : i < n
      · have q1 : decide ((i : Int) < (n : Int)) = true := by rw [decide_eq_true_eq]; omega
        have q2 : decide (i < n) = true := by rw [decide_eq_true_eq]; omega
        have q3 : (i : Int) < n := by omega
        have ha : i < xs.length := by rw [HNA.out]; exact hlt
        have hb : i < ys.length := by rw [HNB.out]; exact hlt
        have hu1 := HU.out.below HB.out
        have hv1 := HV.out.below HB.out
        rw [HNA.out] at hu1
        rw [HNB.out] at hv1
        obtain ⟨b1, o1, rfl, hb1, _, c1, c2, c3, c4⟩ := ent_at hu1 ha
        obtain ⟨b2, o2, rfl, hb2, _, d1, d2, d3, d4⟩ := ent_at hv1 hb
        have hnx := HI.out
        rw [row_step ha hb] at hnx
        have heq := eq_ent xs[i] ys[i]
        generalize xs[i] = X at *
        generalize ys[i] = Y at *
        clear HI hu1 hv1 ha hb
        generalize decide (X = Y) = dd at *
        have HN := Lib.hid hnx
        have HLT := Lib.hid hlt
        clear hnx hlt
        cases dd
        case true =>
          have hn := HN.out
          rw [Bool.true_and] at hn
          have HN2 := Lib.hid hn
          clear HN hn
          go_wp2_with fail
          go_quiet (fail)
          go_wp2_with fail
          have hlt := HLT.out
          go_roundw
          case rel => exact ⟨i + 1, by omega, by go_num, HN2, Lib.hid (MM.below_drewN HB.out _)⟩
          case measure => simp [intOf]; omega
        case false =>
          have hn := HN.out
          rw [Bool.false_and] at hn
          subst hn
          clear HN
          go_wp2_with fail
          go_quiet (fail)
          go_wp2_with fail
          go_ret
          exact ⟨rfl, MM.below_drewN HB.out _⟩
      · obtain rfl : i = n := by omega
        have q1 : decide ((i : Int) < (i : Int)) = false := by simp
        have q2 : decide (i < i) = false := by simp
        have hf : RES = true := by
          rw [← HI.out, List.drop_eq_nil_of_le (by rw [HNA.out]; exact Nat.le_refl _), List.drop_eq_nil_of_le (by rw [HNB.out]; exact Nat.le_refl _)]
          rfl
        subst hf
        clear HI hlt
        go_wp2_with fail
        go_ret
        exact ⟨rfl, HB.out⟩
  · have t0 : (((xs.length : Int)) != ((ys.length : Int))) = true := by rw [bne_iff_ne]; omega
    have hf : decide (xs = ys) = false := decide_eq_false (fun e => hn (by rw [e]))
    rw [hf]
    clear hf hn hu hv
    go_enter Try.func13, Try.ntmps13
    go_wp2_with fail
    go_ret
    exact ⟨rfl, Below.refl _ _⟩
end Go.Proofs.Ytklngjnjnkocmaa.DT
