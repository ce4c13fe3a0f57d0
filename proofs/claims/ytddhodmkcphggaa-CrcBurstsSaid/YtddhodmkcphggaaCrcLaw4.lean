/-
  The law CrcBursts returns true. Condition: the arguments read as data.
-/
import Derived.Test.YtddhodmkcphggaaCrcBurst
import Derived.StillTailTactics
set_option linter.unusedVariables false
namespace Go.Proofs.Ytddhodmkcphggaa.CR
open Go.RowKit Go.Proofs.Ytddhodmkcphggaa.MM Go.Proofs.Ytddhodmkcphggaa.CM

theorem own_empty (w : World) (B : Nat) (hB : B ≤ w.heap.size) : OwnB B (w.alloc (.cells #[] 5)) (.slice (some ⟨w.heap.size, 0, none⟩) 0 0) [] := own_lit w [] 5 B hB (by unfold maxLen; simp)
theorem zero_test (y : UInt8) : ((y.toNat : Int) != 0) = (y != 0) := by
  by_cases h : y = 0
  · subst h; rfl
  · have h2 : y.toNat ≠ 0 := fun h' => h (toNat_zero h')
    have h3 : ((y.toNat : Int) != 0) = true := by rw [bne_iff_ne]; omega
    rw [h3]
    simp [h]
theorem eq_four (a b c d : Int) (w : World) : (Op.equalIn 10000 45 (.agg #[.int .u8 a, .int .u8 b, .int .u8 c, .int .u8 d]) (.agg #[.int .u8 0, .int .u8 0, .int .u8 0, .int .u8 0])).run Try.prog w = .ok (a == 0 && (b == 0 && (c == 0 && d == 0))) w := by
  have u3 := Try.underlying5
  have a3 := Try.isAgg5
  have z3 := Try.sizeOf5
  rw [show (10000 : Nat) = 9999 + 1 from rfl, Op.equalIn]
  simp only [Sem.run_bind, run_underlying Try.underlying45, Result.andThen_ok]
  simp only [Std.Legacy.Range.forIn_eq_forIn_range', Std.Legacy.Range.size, Nat.sub_zero, Nat.add_sub_cancel, Nat.div_one, List.range'_succ, List.range'_zero, List.forIn_cons, List.forIn_nil]
  go_simp
  by_cases h1 : a = 0 <;> by_cases h2 : b = 0 <;> by_cases h3 : c = 0 <;> by_cases h4 : d = 0 <;> simp [h1, h2, h3, h4]

set_option maxRecDepth 100000 in
set_option maxHeartbeats 1000000 in
theorem bursts_walk (v0 : Value) (a : List UInt8) (at_ : Nat) (y0 y1 y2 y3 : UInt8) (w : World) (h0 : BRow w v0 a) (hat : at_ < 65536) :
    Calls Try.prog 6 #[v0, .int .u16 at_, .agg #[.int .u8 (y0.toNat : Int), .int .u8 (y1.toNat : Int), .int .u8 (y2.toNat : Int), .int .u8 (y3.toNat : Int)]] w fun e w' => e = .returned (.bool true) ∧ Below w.heap.size w w' := by
  obtain ⟨wb, hwb⟩ : ∃ wb, w.alloc (.cells #[.int .u8 (y0.toNat : Int), .int .u8 (y1.toNat : Int), .int .u8 (y2.toNat : Int), .int .u8 (y3.toNat : Int)] 45) = wb := ⟨_, rfl⟩
  have hb0 : Below w.heap.size w wb := by rw [← hwb]; exact (Below.refl _ _).alloc (Nat.le_refl _) _
  have hg : wb.heap[w.heap.size]? = some (.cells #[.int .u8 (y0.toNat : Int), .int .u8 (y1.toNat : Int), .int .u8 (y2.toNat : Int), .int .u8 (y3.toNat : Int)] 45 (0, 0)) := by rw [← hwb]; exact heap_alloc_new _ _
  have k0 := Lib.hid (cut_any v0 a wb (h0.below hb0))
  unfold CutLeft at k0
  have hbl : (a.take 3000).length ≤ 3000 := by rw [List.length_take]; omega
  generalize a.take 3000 = b at *
  have HW := Lib.hid hwb
  have HG := Lib.hid hg
  clear h0 hwb hg
  go_enter Try.func6, Try.ntmps6
  go_wp2_with fail
  rw [HW.out]
  refine k0.out.mono ?_
  rintro e w0 ⟨u0, rfl, hu0, rfl⟩
  obtain ⟨p, cap, rfl, hc0, hm0⟩ := hu0.shape
  have HU := Lib.hid hu0
  have e0 := cell_of_row wb w.heap.size 0 _ _ _ HG.out
  have e1 := cell_of_row wb w.heap.size 1 _ _ _ HG.out
  have e2 := cell_of_row wb w.heap.size 2 _ _ _ HG.out
  have e3 := cell_of_row wb w.heap.size 3 _ _ _ HG.out
  simp only [List.getElem?_toArray, List.getElem?_cons_succ, List.getElem?_cons_zero] at e0 e1 e2 e3
  clear k0 hu0
  by_cases hb : b.length = 0
  · have ht : ((b.length : Int) == 0) = true := by rw [beq_iff_eq]; omega
    go_wp2_with fail
    refine (awake_any _).mono ?_
    rintro e w6 ⟨rfl, b6⟩
    have HB6 := Lib.hid (grow hb0 b6)
    go_wp2_with fail
    go_ret
    exact ⟨rfl, HB6.out⟩
  · have ht : ((b.length : Int) == 0) = false := by rw [beq_eq_false_iff_ne]; omega
    obtain ⟨Z, hZ⟩ : ∃ Z, ((y0.toNat : Int) == 0 && ((y1.toNat : Int) == 0 && ((y2.toNat : Int) == 0 && (y3.toNat : Int) == 0))) = Z := ⟨_, rfl⟩
    have heq := eq_four y0.toNat y1.toNat y2.toNat y3.toNat
    rw [hZ] at heq
    clear hZ
    cases Z with
    | true =>
      go_wp2_with fail
      refine (awake_any _).mono ?_
      rintro e w6 ⟨rfl, b6⟩
      have HB6 := Lib.hid (grow hb0 b6)
      go_wp2_with fail
      go_ret
      exact ⟨rfl, HB6.out⟩
    | false =>
      have HO := Lib.hid (own_empty wb wb.heap.size (Nat.le_refl _))
      have hlm' : ([] : List UInt8).length + b.length ≤ 140737488355328 := by rw [List.length_nil]; omega
      have hbe : Below wb.heap.size wb (wb.alloc (.cells #[] 5)) := (Below.refl _ _).alloc (Nat.le_refl _) _
      have hsz0 := hbe.size
      go_wp2_with (at_builtin; refine wpList_append_bytes rfl _ _ rfl wb.heap.size _ [] rfl HO.out _ b rfl (HU.out.below hbe) hlm' hsz0 ?_)
      intro v1 w1 hown1 hb1
      have hbx := hbe.trans hb1
      have hsz := hbx.size
      have HO1 : Hid (OwnB wb.heap.size w1 v1 b) := Lib.hid hown1
      have HBX := Lib.hid hbx
      clear hown1 hlm' hb1 hbe e0 e1 e2 e3 heq HO hbx
      obtain ⟨g, capx, rfl, hgB, hcx, hmx⟩ := HO1.out.shape hb
      unfold maxLen at hmx
      obtain ⟨k, hkk⟩ : ∃ k : Nat, at_ % b.length = k := ⟨_, rfl⟩
      have hkl : k < b.length := by rw [← hkk]; exact Nat.mod_lt _ (by omega)
      have hk : (at_ : Int) % (b.length : Int) = (k : Int) := by rw [← hkk]; rfl
      obtain ⟨Y, hY⟩ : ∃ Y, [y0, y1, y2, y3] = Y := ⟨_, rfl⟩
      have hY4 : Y.length = 4 := by rw [← hY]; rfl
      have HY : Hid (∀ I (h : I < 4), (#[.int .u8 (y0.toNat : Int), .int .u8 (y1.toNat : Int), .int .u8 (y2.toNat : Int), .int .u8 (y3.toNat : Int)] : Array Value)[I]? = some (.int .u8 ((Y[I]'(by omega)).toNat : Int))) := Lib.hid (fun I h => by
        subst hY
        match I, h with
        | 0, _ => rfl
        | 1, _ => rfl
        | 2, _ => rfl
        | 3, _ => rfl)
      have HO2 : Hid (OwnB wb.heap.size w1 (.slice (some ⟨g, 0, none⟩) b.length capx) (turnAt b k Y 0)) := Lib.hid (by rw [turnAt_zero]; exact HO1.out)
      clear hkk hY HO1
      go_wp2_with fail
      rw [hk]
      clear hk
      go_loopw [9, 10] (fun t i wr => ∃ I : Nat, I ≤ 4 ∧ k + I ≤ b.length ∧ i = .int .i64 I ∧ t = .bool (anyT Y I) ∧ Hid (OwnB wb.heap.size wr (.slice (some ⟨g, 0, none⟩) b.length capx) (turnAt b k Y I)) ∧ Hid (Below wb.heap.size wb wr)) (fun _ i _ => 4 - (intOf i).toNat)
      case atStart => exact ⟨0, by omega, by omega, rfl, rfl, HO2, HBX⟩
      case round =>
        obtain ⟨I, hI, hkI, rfl, rfl, HO, HB⟩ := hrel
        clear HO2 HBX
        by_cases hgo : I < 4 ∧ k + I < b.length
        · obtain ⟨hI4, hlt⟩ := hgo
          have hn := turnAt_next (Y := Y) hlt (by omega)
          have hA := anyT_next (Y := Y) (I := I) (by omega)
          have hcell := HO.out.cell hn.1
          have hfree := HO.out.free (k + I)
          have hset := HO.out.set (j := k + I) (b[k + I] ^^^ Y[I])
          rw [← hn.2] at hset
          have hgr := (HG.out ▸ HB.out.block w.heap.size (by have := (Array.getElem?_eq_some_iff.1 HG.out).1; exact this) : wr.heap[w.heap.size]? = _)
          have hy := cell_of_row wr w.heap.size I _ _ _ hgr
          rw [HY.out I hI4] at hy
          have hx := u8_xor_nat (b[k + I]).toNat (Y[I]).toNat (b[k + I]).toNat_lt (Y[I]).toNat_lt
          rw [← toNat_xor] at hx
          have hne := zero_test (Y[I])
          generalize b[k + I] ^^^ Y[I] = z at *
          generalize Y[I] = y at *
          generalize b[k + I] = x at *
          have hgw : w.heap.size < wb.heap.size := (Array.getElem?_eq_some_iff.1 HG.out).1
          have hy2 : (wr.setCell ⟨g, k + I, none⟩ (.int .u8 (z.toNat : Int))).cell? ⟨w.heap.size, I, none⟩ = some (.int .u8 (y.toNat : Int)) :=
            (World.cell?_setCell_other wr ⟨g, k + I, none⟩ ⟨w.heap.size, I, none⟩ _ (by intro e; injection e; omega)).trans hy
          generalize (y != 0) = E at *
          generalize anyT Y I = T at *
          have HSet := Lib.hid hset
          have HBS := Lib.hid (HB.out.setCell (p := ⟨g, k + I, none⟩) hgB (.int .u8 (z.toNat : Int)))
          have HA := Lib.hid hA
          clear hset hn HO hgr hA HB
          have hj1 : (k : Int) + I < b.length := by omega
          have hj0 : (0 : Int) ≤ (k : Int) + I := by omega
          have hj2 : ((k : Int) + I).toNat = k + I := by omega
          have hI5 : (I : Int) < 4 := by omega
          have hwr : IntKind.i64.wrap ((k : Int) + I) = (k : Int) + I := by rw [IntKind.wrap_i64]; omega
          cases T with
          | true =>
            go_wp2_with fail
            go_still_tail 11, (by kernel_rfl)
            change wpList _ _ _ _ _ wr.drew
            go_wp2_with fail
            go_roundw
            case rel => exact ⟨I + 1, by omega, by omega, by go_num, by rw [HA.out]; simp [hne], HSet, Lib.hid (HBS.out.drew)⟩
            case measure => simp [intOf]; omega
          | false =>
            go_wp2_with fail
            go_still_tail 11, (by kernel_rfl)
            change wpList _ _ _ _ _ wr.drew
            go_wp2_with fail
            go_roundw
            case rel => exact ⟨I + 1, by omega, by omega, by go_num, by rw [HA.out]; simp [hne], HSet, Lib.hid (HBS.out.drew)⟩
            case measure => simp [intOf]; omega
        · have hs := turnAt_sum (b := b) (k := k) (Y := Y) hI hY4 hkI
          have K1 := Lib.hid (flat_one (turnAt b k Y I) ▸ sum_any _ _ _ (prow_one HO.out.brow))
          have K2 := Lib.hid (fun W (h : Below wb.heap.size wb W) => flat_one b ▸ sum_any _ _ _ (prow_one (HU.out.below h)))
          have hne : ((sumL (turnAt b k Y I) : Int) != (sumL b : Int)) = anyT Y I := by
            cases h : anyT Y I with
            | true =>
              rw [bne_iff_ne]
              intro e
              exact hs.1 h (by omega)
            | false =>
              rw [hs.2 h]
              simp
          generalize sumL (turnAt b k Y I) = F1 at *
          generalize sumL b = F2 at *
          generalize anyT Y I = T at *
          have HBa := Lib.hid (HB.out.alloc HB.out.size (.cells #[.slice (some ⟨g, 0, none⟩) b.length capx] 22))
          clear hs HO
          have hend : I = 4 ∨ b.length ≤ k + I := by omega
          by_cases hI4 : I < 4
          · have hge : (b.length : Int) ≤ (k : Int) + I := by omega
            go_wp2_with fail
            refine K1.out.mono ?_
            rintro e w2 ⟨rfl, b2⟩
            have HB2 := Lib.hid (HBa.out.trans (b2.mono (by have := HB.out.size; simp; omega)))
            have HB2a := Lib.hid (HB2.out.alloc HB2.out.size (.cells #[.slice p b.length cap] 22))
            clear b2
            go_wp2_with fail
            refine (K2.out _ HB2.out).mono ?_
            rintro e w3 ⟨rfl, b3⟩
            have HB3 := Lib.hid (HB2a.out.trans (b3.mono (by have := HB2.out.size; simp; omega)))
            clear b3
            go_wp2_with fail
            refine (awake_any _).mono ?_
            rintro e w6 ⟨rfl, b6⟩
            have HB6 := Lib.hid ((grow hb0 HB3.out).trans (b6.mono (by have := HB3.out.size; have := hb0.size; omega)))
            go_wp2_with fail
            go_ret
            exact ⟨rfl, HB6.out⟩
          · obtain rfl : I = 4 := by omega
            go_wp2_with fail
            refine K1.out.mono ?_
            rintro e w2 ⟨rfl, b2⟩
            have HB2 := Lib.hid (HBa.out.trans (b2.mono (by have := HB.out.size; simp; omega)))
            have HB2a := Lib.hid (HB2.out.alloc HB2.out.size (.cells #[.slice p b.length cap] 22))
            clear b2
            go_wp2_with fail
            refine (K2.out _ HB2.out).mono ?_
            rintro e w3 ⟨rfl, b3⟩
            have HB3 := Lib.hid (HB2a.out.trans (b3.mono (by have := HB2.out.size; simp; omega)))
            clear b3
            go_wp2_with fail
            refine (awake_any _).mono ?_
            rintro e w6 ⟨rfl, b6⟩
            have HB6 := Lib.hid ((grow hb0 HB3.out).trans (b6.mono (by have := HB3.out.size; have := hb0.size; omega)))
            go_wp2_with fail
            go_ret
            exact ⟨rfl, HB6.out⟩
end Go.Proofs.Ytddhodmkcphggaa.CR
