/-
  goOn: a sum that goes on by rows of bytes. No condition.
-/
import Derived.Test.YtfnohcmoaooghaaCrcRows
set_option linter.unusedVariables false
namespace Go.Proofs.Ytfnohcmoaooghaa.CR
open Go.RowKit Go.Proofs.Ytfnohcmoaooghaa.MM Go.Proofs.Ytfnohcmoaooghaa.CM

theorem nat_not {n : Nat} (hn : n < 4294967296) : 4294967295 ^^^ n = 4294967295 - n := by
  have h := congrArg BitVec.toNat (BitVec.allOnes_xor (x := BitVec.ofNat 32 n))
  simp only [BitVec.toNat_xor, BitVec.toNat_allOnes, BitVec.toNat_not, BitVec.toNat_ofNat] at h
  rw [show n % 2 ^ 32 = n by omega] at h
  simpa using h
theorem not_code {n : Nat} (hn : n < 4294967296) : bits .xor .u32 IntKind.u32.max (n : Int) = ((notB n : Nat) : Int) := by
  have h := u32_xor_nat 4294967295 n (by omega) hn
  rw [nat_not hn] at h
  exact h
theorem u32_unsigned : IntKind.u32.signed = false := rfl
theorem Tab.of_row {B : Nat} {w : World} {T : Array Value} (hT : tab = T) (h : w.heap[B]? = some (.cells T 63 (0, 0))) : Tab B 256 w := by
  subst hT
  exact ⟨tab, h, tab_size, fun k hk => tab_get hk⟩
theorem run_drop {l R : List UInt8} {m j r : Nat} (hj : j < l.length) (h : run m (l.drop j ++ R) = r) : run (onB m (l[j]).toNat) (l.drop (j + 1) ++ R) = r := by
  rw [List.drop_eq_getElem_cons hj, List.cons_append, run_cons] at h
  exact h

set_option maxRecDepth 100000 in
theorem goon_any (s : Nat) (v : Value) (ls : List (List UInt8)) (w : World) (hs : s < 4294967296) (hr : PRow w v ls) :
    Calls Try.prog 35 #[.int .u32 s, v] w fun e w' => e = .returned (.int .u32 (nextL s ls.flatten : Nat)) ∧ Below w.heap.size w w' := by
  obtain ⟨p, cap, rfl, hlc, hcm⟩ := hr.shape
  unfold maxLen at hcm
  obtain ⟨T, hT⟩ : ∃ T, tab = T := ⟨_, rfl⟩
  have HTs : Hid (T.size = 256) := Lib.hid (hT ▸ tab_size)
  have HT1 : Hid (T.all (·.oneCell') = true) := Lib.hid (hT ▸ tab_one)
  have HTab : Hid (∀ B W, W.heap[B]? = some (.cells T 63 (0, 0)) → Tab B 256 W) := Lib.hid (fun B W h => Tab.of_row hT h)
  have hK := fun W => tab_any W
  rw [hT] at hK
  have HK := Lib.hid hK
  obtain ⟨Z, hZ, hZ0, hz⟩ := zero_arr
  obtain ⟨r, hrr⟩ : ∃ r, run (notB s) ls.flatten = r := ⟨_, rfl⟩
  have HRes : Hid (nextL s ls.flatten = notB r) := Lib.hid (by unfold nextL; rw [hrr])
  have HR0 : Hid (run (notB s) (ls.drop 0).flatten = r) := Lib.hid hrr
  have HZ := Lib.hid hZ
  have HP := Lib.hid hr
  obtain ⟨F, hF⟩ : ∃ F, nextL s ls.flatten = F := ⟨_, rfl⟩
  rw [hF]
  rw [hF] at HRes
  clear hT hK hZ hZ0 hrr hr hF
  go_enter Try.func35, Try.ntmps35
  go_wp2_with fail
  refine (HK.out _).mono ?_
  rintro e w1 ⟨rfl, hb1⟩
  have hb2 : Below w.heap.size w (w1.alloc (.cells Z 63)) := hb1.alloc hb1.size _
  have hg2 : (w1.alloc (.cells Z 63)).heap[w1.heap.size]? = some (.cells Z 63 (0, 0)) := heap_alloc_new _ _
  have hg3 := setRow_heap _ w1.heap.size Z T _ _ hg2
  have HT3 := Lib.hid (HTab.out _ _ hg3)
  have HB3 := Lib.hid (below_setRow T hb2 hb1.size)
  have hi : (Try.prog.info? 63).map (·.size) = some T.size := by rw [HTs.out]; exact infoArr
  have hzt : Z.size = T.size := by rw [HTs.out, HZ.out]
  have HG2 := Lib.hid hg2
  have HI := Lib.hid hi
  have HZT := Lib.hid hzt
  clear hg2 hg3 hi hzt hb2
  obtain ⟨w3, hw3⟩ : ∃ w3, (w1.alloc (.cells Z 63)).setRow w1.heap.size T = w3 := ⟨_, rfl⟩
  rw [hw3] at HT3 HB3
  have HW3 := Lib.hid hw3
  have hsz1 := HB3.out.size
  have HP3 := Lib.hid (HP.out.below HB3.out)
  obtain ⟨g, hg⟩ : ∃ g, w1.heap.size = g := ⟨_, rfl⟩
  have HG := Lib.hid hg
  clear hw3 hg
  have hu := u32_unsigned
  have hn := not_code hs
  have hnl := notB_lt s
  go_wp2_with (refine wpList_store_row rfl 63 (.tmp 5) (.tmp 10) rfl w1.heap.size T rfl rfl 63 Z HG2.out HI.out HZT.out HT1.out ?_; rw [HW3.out])
  clear hz HG2 HI HZT HT1 HZ HTs HTab HK HW3 HP
  rw [HG.out] at HT3
  rw [HG.out]
  clear HG
  go_loop [0, 15] (fun s i => ∃ k m : Nat, k ≤ ls.length ∧ i = .int .i64 k ∧ s = .int .u32 m ∧ m < 4294967296 ∧ Hid (run m (ls.drop k).flatten = r)) (fun _ i => ls.length - (intOf i).toNat)
  case atStart => exact ⟨0, notB s, by omega, rfl, rfl, hnl, HR0⟩
  case round =>
    obtain ⟨k, m, hk, rfl, rfl, hm, H⟩ := hrel
    clear HR0 hn hnl hs
    by_cases hlt : k < ls.length
    · obtain ⟨b, off, x, rfl, hcell, hx⟩ := HP3.out.at_ hlt
      have h2 := H.out
      rw [run_flat_take hlt] at h2
      generalize ls[k] = l at h2 hx
      obtain ⟨p2, cap2, rfl, hlc2, hcm2⟩ := hx.shape
      unfold maxLen at hcm2
      obtain ⟨R, hR⟩ : ∃ R, (ls.drop (k + 1)).flatten = R := ⟨_, rfl⟩
      rw [hR] at h2
      have HRR := Lib.hid hR
      clear hR
      have H2 : Hid (run m (l.drop 0 ++ R) = r) := Lib.hid h2
      have HX := Lib.hid hx
      clear h2 H hx
      go_wp2_with fail
      go_loop [0, 21] (fun s i => ∃ j m : Nat, j ≤ l.length ∧ i = .int .i64 j ∧ s = .int .u32 m ∧ m < 4294967296 ∧ Hid (run m (l.drop j ++ R) = r)) (fun _ i => l.length - (intOf i).toNat)
      case atStart => exact ⟨0, m, by omega, rfl, rfl, hm, H2⟩
      case round =>
        obtain ⟨j, n, hj, rfl, rfl, hn, H3⟩ := hrel
        clear H2 hm hcell
        by_cases hjl : j < l.length
        · obtain ⟨b2, off2, rfl, hbl2, hcell2⟩ := HX.out.at_ hjl
          have h4 := run_drop hjl H3.out
          generalize l[j] = c at h4 hcell2
          have hz : n % 256 ^^^ c.toNat < 256 := Nat.xor_lt_two_pow (n := 8) (by omega) c.toNat_lt
          have htab := HT3.out.cell hz
          have e1 := table_byte n c
          have e2 := table_step n c hn
          have hn2 := onB_lt hn c.toNat_lt
          have hcb := c.toNat_lt
          have hb1 : (0 : Int) ≤ ((n % 256 ^^^ c.toNat : Nat) : Int) := by omega
          have hb2 : ((n % 256 ^^^ c.toNat : Nat) : Int) < 256 := by omega
          generalize n % 256 ^^^ c.toNat = z at *
          generalize onB n c.toNat = n2 at *
          have H4 := Lib.hid h4
          clear h4 H3
          go_wp2_with fail
          go_round
          case rel => exact ⟨j + 1, n2, by omega, by go_num, rfl, hn2, H4⟩
          case measure => simp [intOf]; omega
        · obtain rfl : j = l.length := by omega
          have h4 := H3.out
          rw [List.drop_length, List.nil_append, ← HRR.out] at h4
          have H4 := Lib.hid h4
          clear h4 H3
          go_wp2_with fail
          go_round
          case rel => exact ⟨k + 1, n, by omega, by go_num, rfl, hn, H4⟩
          case measure => simp [intOf]; omega
    · obtain rfl : k = ls.length := by omega
      have hn := not_code hm
      have h2 := H.out
      rw [List.drop_length] at h2
      have h3 : m = r := h2
      subst h3
      clear h2 H
      go_wp2_with fail
      have hF := HRes.out
      subst hF
      go_ret
      exact ⟨rfl, HB3.out⟩
end Go.Proofs.Ytfnohcmoaooghaa.CR
