/-
  The reference's Get, Floor, Prefix: what the plain lists say. Conditions: texts of at most 10^12 bytes, 10^9 entries.
-/
import Derived.Test.YtklngjnjnkocmaaZA19
import Derived.Test.YtklngjnjnkocmaaZA27
set_option linter.unusedVariables false
namespace Go.Proofs.Ytklngjnjnkocmaa.DT
open Go Go.RowKit Go.Proofs.Ytklngjnjnkocmaa.MM Go.Proofs.Ytklngjnjnkocmaa.DM
open Go.Proofs.Ytklngjnjnkocmaa.EM (lessL less_bytes)

theorem infoEnt : (Try.prog.info? 42).map (·.size) = some 4 := by kernel_rfl
theorem entE : Elem entC Try.prog 22 42 40 := ⟨Try.underlying22, by
  have h : (Try.prog.info? 42).map (fun i => (i.zero, i.size, i.bytes)) = some (some (.agg #[.string ⟨#[]⟩, .int .i64 0, .int .i64 0, .int .i64 0]), 4, 40) := by kernel_rfl
  obtain ⟨i, h1, h2, h3, h4⟩ := info_parts h
  exact ⟨i, _, h1, h2, h3, h4, rfl⟩⟩
/-- What is told of an entry that is found, or is not. -/
def Found (o : Option Ent) (w : World) (e : Ending) (w' : World) : Prop := e = .returned (.tuple #[entV (o.getD nilX), .bool o.isSome]) ∧ Below w.heap.size w w'

set_option maxRecDepth 100000 in
set_option maxHeartbeats 2000000 in
theorem rfind_any (v : Value) (l : List Ent) (t : List UInt8) (w : World) (hv : RAny entC w v l) : Calls Try.prog 17 #[v, .string ⟨t.toArray⟩] w (Found (findD l t) w) := by
  obtain ⟨p, cap, rfl, hlc, hcm, _⟩ := hv.shape
  unfold maxLen at hcm
  obtain ⟨R, hR⟩ : ∃ R, w.heap.size = R := ⟨_, rfl⟩
  obtain ⟨wa, hwa⟩ : ∃ wa, w.alloc (.cells #[.string ⟨#[]⟩, .int .i64 0, .int .i64 0, .int .i64 0] 42) = wa := ⟨_, rfl⟩
  have hba : Below w.heap.size w wa := by rw [← hwa]; exact (Below.refl _ _).alloc (Nat.le_refl _) _
  have t0 : Four wa R 42 (.string ⟨#[]⟩) (.int .i64 0) (.int .i64 0) (.int .i64 0) := by rw [← hwa, ← hR]; exact four_new w 42 _ _ _ _
  have HWA := Lib.hid hwa
  have HV := Lib.hid (hv.below hba)
  have HB0 := Lib.hid hba
  have HF0 := Lib.hid t0
  obtain ⟨RES, hRES⟩ : ∃ RES, findD l t = RES := ⟨_, rfl⟩
  have H0 : Hid (findD (l.drop 0) t = RES) := Lib.hid hRES
  rw [hRES]
  clear hwa hv hba t0 hRES
  go_enter Try.func17, Try.ntmps17
  go_wp2_with fail
  rw [HWA.out]
  go_loopw [6] (fun iv wr => ∃ i : Nat, i ≤ l.length ∧ iv = .int .i64 i ∧ Hid (wr = wa) ∧ Hid (findD (l.drop i) t = RES)) (fun iv _ => l.length - (intOf iv).toNat)
  case atStart => exact ⟨0, by omega, rfl, Lib.hid rfl, H0⟩
  case round =>
    obtain ⟨i, hi, rfl, HW, HI⟩ := hrel
    obtain rfl := HW.out
    clear H0 HW
    by_cases hlt : i < l.length
    · have q1 : decide ((i : Int) < (l.length : Int)) = true := by rw [decide_eq_true_eq]; omega
      have q4 : decide (i < l.length) = true := by rw [decide_eq_true_eq]; omega
      have q8 : (i : Int) < (l.length : Int) := by omega
      obtain ⟨b, off, rfl, hbl, _, c1, c2, c3, c4⟩ := ent_at HV.out hlt
      have hnx := HI.out
      rw [findD_next hlt] at hnx
      generalize l[i] = X at *
      have hsl := same_list X.1 t
      by_cases he : X.1 = t
      · rw [if_pos he] at hnx
        have q2 : decide (X.1 = t) = true := decide_eq_true he
        have q3 : (X.1 == t) = true := by rw [beq_iff_eq]; exact he
        rw [q2] at hsl
        have HN := Lib.hid hnx
        obtain ⟨m1, m2, m3, m4, ⟨k1, k2⟩, ⟨k3, k4⟩, k5, k6⟩ := HF0.out.all (.string ⟨X.1.toArray⟩) (.int .i64 X.2.1) (.int .i64 X.2.2.1)
        obtain ⟨n1, n2, n3, n4⟩ := HF0.out.cells
        have HX := Lib.hid (HF0.out.set (.string ⟨X.1.toArray⟩) (.int .i64 X.2.1) (.int .i64 X.2.2.1) (.int .i64 X.2.2.2))
        clear hnx HI hlt he
        go_wp2_with fail
        refine bodyPost_ret (results_four2 (p := 4) (u := 5) rfl Try.underlying42 rfl infoEnt _ _ R _ _ _ _ rfl HX.out) rfl ?_
        rw [← HN.out]
        exact ⟨rfl, HB0.out.trans ((kep_set4 _ _ _ _).below (by have := HB0.out.size; omega) (fun k hk => by omega))⟩
      · rw [if_neg he] at hnx
        have q2 : decide (X.1 = t) = false := decide_eq_false he
        have q3 : (X.1 == t) = false := by rw [beq_eq_false_iff_ne]; exact he
        rw [q2] at hsl
        have HN := Lib.hid hnx
        clear hnx HI he
        go_wp2_with fail
        go_roundw
        case rel => exact ⟨i + 1, by omega, by go_num, Lib.hid trivial, HN⟩
        case measure => simp [intOf]; omega
    · obtain rfl : i = l.length := by omega
      have q1 : decide ((l.length : Int) < (l.length : Int)) = false := by simp
      have hnx := HI.out
      rw [findD_end] at hnx
      subst hnx
      obtain ⟨m1, m2, m3, m4, ⟨k1, k2⟩, ⟨k3, k4⟩, k5, k6⟩ := HF0.out.all (.string ⟨#[]⟩) (.int .i64 0) (.int .i64 0)
      obtain ⟨n1, n2, n3, n4⟩ := HF0.out.cells
      have HX := Lib.hid (HF0.out.set (.string ⟨#[]⟩) (.int .i64 0) (.int .i64 0) (.int .i64 0))
      clear HI hlt
      go_wp2_with fail
      refine bodyPost_ret (results_four2 (p := 4) (u := 5) rfl Try.underlying42 rfl infoEnt _ _ R _ _ _ _ rfl HX.out) rfl ?_
      exact ⟨rfl, HB0.out.trans ((kep_set4 _ _ _ _).below (by have := HB0.out.size; omega) (fun k hk => by omega))⟩

set_option maxRecDepth 100000 in
set_option maxHeartbeats 2000000 in
theorem rfloor_any (v : Value) (l : List Ent) (t : List UInt8) (w : World) (hv : RAny entC w v l) : Calls Try.prog 21 #[v, .string ⟨t.toArray⟩] w fun e w' => e = .returned (.int .i64 (floorD l t : Int)) ∧ w' = w := by
  obtain ⟨p, cap, rfl, hlc, hcm, _⟩ := hv.shape
  unfold maxLen at hcm
  have HV := Lib.hid hv
  have HEND : Hid (floorD (l.take l.length) t = floorD l t) := Lib.hid (by rw [List.take_length])
  clear hv
  go_enter Try.func21, Try.ntmps21
  go_wp2_with fail
  go_loopw [5, 6] (fun nv iv wr => ∃ i f : Nat, i ≤ l.length ∧ f ≤ i ∧ iv = .int .i64 i ∧ nv = .int .i64 f ∧ Hid (floorD (l.take i) t = f) ∧ Hid (wr = w)) (fun _ iv _ => l.length - (intOf iv).toNat)
  case atStart => exact ⟨0, 0, by omega, by omega, rfl, rfl, Lib.hid rfl, Lib.hid rfl⟩
  case round =>
    obtain ⟨i, f, hi, hfi, rfl, rfl, HF, HW⟩ := hrel
    obtain rfl := HW.out
    clear HW
    by_cases hlt : i < l.length
    · have q1 : decide ((i : Int) < (l.length : Int)) = true := by rw [decide_eq_true_eq]; omega
      have q4 : decide (i < l.length) = true := by rw [decide_eq_true_eq]; omega
      have q8 : (i : Int) < (l.length : Int) := by omega
      obtain ⟨b, off, rfl, hbl, _, c1, c2, c3, c4⟩ := ent_at HV.out hlt
      have hnx := floorD_next hlt t
      generalize l[i] = X at *
      have hlb := less_bytes X.1 t
      rw [HF.out] at hnx
      clear HF
      by_cases hq : lessL X.1 t = true
      · rw [hq] at hlb
        rw [if_pos hq] at hnx
        have HN := Lib.hid hnx
        clear hq hnx
        go_wp2_with fail
        go_roundw
        case rel => exact ⟨i + 1, f + 1, by omega, by omega, by go_num, by go_num, HN, Lib.hid trivial⟩
        case measure => simp [intOf]; omega
      · have hq : lessL X.1 t = false := by simpa using hq
        rw [hq] at hlb
        rw [if_neg (by simp [hq]), Nat.add_zero] at hnx
        have HN := Lib.hid hnx
        clear hq hnx
        go_wp2_with fail
        go_roundw
        case rel => exact ⟨i + 1, f, by omega, by omega, by go_num, rfl, HN, Lib.hid trivial⟩
        case measure => simp [intOf]; omega
    · obtain rfl : i = l.length := by omega
      have q1 : decide ((l.length : Int) < (l.length : Int)) = false := by simp
      have hf := HEND.out
      rw [HF.out] at hf
      have HZ := Lib.hid hf
      clear hlt hf HF HEND
      go_wp2_with fail
      go_ret
      rw [← HZ.out]
      exact ⟨rfl, rfl⟩

set_option maxRecDepth 100000 in
set_option maxHeartbeats 2000000 in
theorem rprefix_any (v : Value) (l : List Ent) (t : List UInt8) (w : World) (hv : RAny entC w v l) (hn : l.length ≤ 1000000000) (ht : t.length ≤ 1000000000000) (hx : ∀ x ∈ l, x.1.length ≤ 1000000000000) :
    Calls Try.prog 19 #[v, .string ⟨t.toArray⟩] w fun e w' => ∃ u, e = .returned u ∧ OwnX entC 42 w.heap.size (fun _ => False) w' u (prefD l t) ∧ Below w.heap.size w w' := by
  obtain ⟨p, cap, rfl, hlc, hcm, _⟩ := hv.shape
  unfold maxLen at hcm
  have HV := Lib.hid hv
  have HX := Lib.hid hx
  have HEND : Hid (prefD (l.take l.length) t = prefD l t) := Lib.hid (by rw [List.take_length])
  have HO0 := Lib.hid (OwnX.nil_ (C := entC) 42 w.heap.size (fun _ => False) w)
  have hts := str_sz t
  clear hv hx
  go_enter Try.func19, Try.ntmps19
  go_wp2_with fail
  go_loopw [5, 6] (fun nv iv wr => ∃ (i : Nat) (r : List Ent), i ≤ l.length ∧ r.length ≤ i ∧ iv = .int .i64 i ∧ Hid (OwnX entC 42 w.heap.size (fun _ => False) wr nv r) ∧ Hid (prefD (l.take i) t = r) ∧ Hid (Below w.heap.size w wr)) (fun _ iv _ => l.length - (intOf iv).toNat)
  case atStart => exact ⟨0, [], by omega, by simp, rfl, HO0, Lib.hid rfl, Lib.hid (Below.refl _ _)⟩
  case round =>
    obtain ⟨i, r, hi, hri, rfl, HO, HF, HB⟩ := hrel
    clear HO0
    by_cases hlt : i < l.length
    · have q1 : decide ((i : Int) < (l.length : Int)) = true := by rw [decide_eq_true_eq]; omega
      have q4 : decide (i < l.length) = true := by rw [decide_eq_true_eq]; omega
      have q8 : (i : Int) < (l.length : Int) := by omega
      obtain ⟨b, off, rfl, hbl, _, c1, c2, c3, c4⟩ := ent_at (RAny.below HV.out HB.out) hlt
      have hnx := prefD_next hlt t
      rw [HF.out] at hnx
      have hxl := HX.out l[i] (List.getElem_mem hlt)
      generalize l[i] = X at *
      have hxs := str_sz X.1
      unfold hasP at hnx
      clear HF
      by_cases h1 : t.length ≤ X.1.length
      · have q5 : decide ((X.1.length : Int) ≥ (t.length : Int)) = true := by rw [decide_eq_true_eq]; omega
        have q6 : decide (t.length ≤ X.1.length) = true := decide_eq_true h1
        rw [q6, Bool.true_and] at hnx
        by_cases h2 : X.1.take t.length = t
        · have q7 : ((((⟨X.1.toArray⟩ : ByteArray).extract 0 t.length).toList) == t) = true := by rw [text_cut, beq_iff_eq]; exact h2
          rw [if_pos (decide_eq_true h2)] at hnx
          have HN := Lib.hid hnx
          have HO6 := Lib.hid (HO.out.alloc (.cells #[.string ⟨X.1.toArray⟩, .int .i64 X.2.1, .int .i64 X.2.2.1, .int .i64 X.2.2.2] 42))
          have HS6 := Lib.hid (src_lit (C := entC) (S := fun _ => False) (w := wr) (vs := [.string ⟨X.1.toArray⟩, .int .i64 X.2.1, .int .i64 X.2.2.1, .int .i64 X.2.2.2]) (d := X) 42 (ent_on.2 rfl))
          have HB6 := Lib.hid (HB.out.trans ((kep_alloc (fun _ => True) wr (.cells #[.string ⟨X.1.toArray⟩, .int .i64 X.2.1, .int .i64 X.2.2.1, .int .i64 X.2.2.2] 42)).below (B := w.heap.size) (by have := HB.out.size; omega) (fun _ _ => trivial)))
          have hsz := HB.out.size
          clear hnx HO HB
          go_wp2_with (at_builtin; go_loud (refine wpList_append_x entE rfl _ _ rfl w.heap.size u5 r rfl HO6.out (fun _ _ h => h.elim) _ [X] rfl HS6.out (by unfold maxLen; simp; omega) (by simp; omega) (by simp; omega) ?_; intro v7 w7 ho7 hb7 hk7; obtain ⟨p7, c7, rfl, _⟩ := ho7.any.shape; have HO7 := Lib.hid ho7; have HB7 := Lib.hid (HB6.out.trans hb7); clear ho7 hb7 hk7 HO6 HS6 HB6))
          rw [show (r ++ [X]).length = r.length + 1 by simp] at HO7
          go_roundw
          case rel => exact ⟨i + 1, r ++ [X], by omega, by simp; omega, by go_num, HO7, HN, HB7⟩
          case measure => simp [intOf]; omega
        · have q7 : ((((⟨X.1.toArray⟩ : ByteArray).extract 0 t.length).toList) == t) = false := by rw [text_cut, beq_eq_false_iff_ne]; exact h2
          rw [if_neg (by simpa using h2), List.append_nil] at hnx
          have HN := Lib.hid hnx
          clear hnx
          go_wp2_with fail
          go_roundw
          case rel => exact ⟨i + 1, r, by omega, by omega, by go_num, HO, HN, HB⟩
          case measure => simp [intOf]; omega
      · have q5 : decide ((X.1.length : Int) ≥ (t.length : Int)) = false := by rw [decide_eq_false_iff_not]; omega
        have q6 : decide (t.length ≤ X.1.length) = false := decide_eq_false h1
        rw [q6, Bool.false_and, if_neg (by simp), List.append_nil] at hnx
        have HN := Lib.hid hnx
        clear hnx
        go_wp2_with fail
        go_roundw
        case rel => exact ⟨i + 1, r, by omega, by omega, by go_num, HO, HN, HB⟩
        case measure => simp [intOf]; omega
    · obtain rfl : i = l.length := by omega
      have q1 : decide ((l.length : Int) < (l.length : Int)) = false := by simp
      have q2 : decide (l.length < l.length) = false := by simp
      have hf := HEND.out
      rw [HF.out] at hf
      rw [hf] at HO
      clear hlt hf HF HEND hri
      go_wp2_with fail
      go_ret
      exact ⟨_, rfl, HO.out, HB.out⟩
end Go.Proofs.Ytklngjnjnkocmaa.DT
