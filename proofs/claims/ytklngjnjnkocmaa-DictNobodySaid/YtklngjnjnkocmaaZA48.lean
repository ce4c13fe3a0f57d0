/-
  The code's entries from a place on, to ahead of another one; All, Prefix. Condition: entries that may be.
-/
import Derived.Test.YtklngjnjnkocmaaZA40
set_option linter.unusedVariables false
namespace Go.Proofs.Ytklngjnjnkocmaa.DT
open Go Go.RowKit Go.Proofs.Ytklngjnjnkocmaa.MM Go.Proofs.Ytklngjnjnkocmaa.DM
open Go.Proofs.Ytklngjnjnkocmaa.EM (lessL less_bytes)

theorem cut_more {l : List Ent} {a i m : Nat} (ha : a ≤ i) (hi : i ≤ l.length) : (l.take (i + m)).drop a = (l.take i).drop a ++ (l.drop i).take m := by
  rw [List.take_add, List.drop_append_of_le_length (by rw [List.length_take]; omega)]
theorem chunk_cut {l : List Ent} {i J M m : Nat} (h : i = 16 * J + M) (hm : m ≤ 16 - M) : ((chunk l J).drop M).take m = (l.drop i).take m := by
  subst h
  unfold chunk
  rw [List.drop_take, List.drop_drop, List.take_take, Nat.min_eq_left hm]

theorem src_ent {S T : Nat → Prop} {w : World} {v : Value} {ds : List Ent} (h : SrcX entC S w v ds) : SrcX entC T w v ds := by
  obtain ⟨p, cap, raw, hv, h1, h3, hm, hc⟩ := h
  exact ⟨p, cap, raw, hv, h1, h3, ⟨hm.1, fun i hi hi' => ent_on.2 (ent_on.1 (hm.2 i hi hi'))⟩, hc⟩

set_option maxRecDepth 100000 in
set_option maxHeartbeats 1000000 in
theorem between_any (p : Option Addr) (l : List Ent) (a b : Nat) (w : World) (hp : DictP (fun _ => True) w p l) (hl : areD l = true) (hb : b ≤ l.length) (ha : a ≤ l.length) : Calls Try.prog 38 #[.pointer p, .int .i64 (a : Int), .int .i64 (b : Int)] w (EntsLeft ((l.take b).drop a) w) := by
  obtain ⟨hw, hr, hn⟩ := good_all hl
  have HP := Lib.hid hp
  have HO0 : Hid (OwnX entC 42 w.heap.size (fun _ => False) w (.slice none 0 0) ((l.take a).drop a)) := Lib.hid (by
    rw [List.drop_of_length_le (by rw [List.length_take]; omega)]
    exact OwnX.nil_ _ _ _ _)
  clear hp hr hl
  go_enter Try.func38, Try.ntmps38
  go_wp2_with fail
  go_loopw [1, 7] (fun iv lv wr => ∃ i : Nat, iv = .int .i64 (i : Int) ∧ a ≤ i ∧ i ≤ l.length ∧ (i ≤ b ∨ i = a) ∧ Hid (OwnX entC 42 w.heap.size (fun _ => False) wr lv ((l.take i).drop a)) ∧ Hid (Below w.heap.size w wr)) (fun iv _ _ => b - (intOf iv).toNat)
  case atStart => exact ⟨a, rfl, Nat.le_refl _, ha, .inr rfl, HO0, Lib.hid (Below.refl _ _)⟩
  case round =>
    obtain ⟨i, rfl, hai, hil, hib, HO, HB⟩ := hrel
    clear HO0
    by_cases hlt : i < b
    · have q1 : decide ((i : Int) < (b : Int)) = true := by rw [decide_eq_true_eq]; omega
      have q2 : decide (i < b) = true := by rw [decide_eq_true_eq]; omega
      rcases HP.out.below HB.out with ⟨_, h0⟩ | ⟨g, hg, v, h2, _, h3⟩
      · rw [h0] at hb; simp at hb; omega
      subst hg
      have hj : i / 16 < chunksN l := by unfold chunksN; omega
      obtain ⟨pb, cb, rfl, hcb, hcm, _⟩ := h3.shape
      rw [blksOf_len] at h3 h2 hcb
      obtain ⟨bb, off, vb, rfl, hbl, b0, b1, hbody⟩ := blk_at h3 hj
      obtain ⟨J, hJ⟩ : ∃ J, i / 16 = J := ⟨_, rfl⟩
      obtain ⟨M, hM⟩ : ∃ M, i % 16 = M := ⟨_, rfl⟩
      have d1 : (i : Int) / 16 = (J : Int) := by omega
      have d2 : (i : Int).tdiv 16 = (J : Int) := by rw [Int.tdiv_eq_ediv_of_nonneg (by omega)]; omega
      have d3 : (i : Int) % 16 = (M : Int) := by omega
      have d4 : (i : Int).tmod 16 = (M : Int) := by rw [Int.tmod_eq_emod_of_nonneg (by omega)]; omega
      rw [hJ] at b0 b1 hbody hj
      have hcl : (chunk l J).length = min 16 (l.length - 16 * J) := chunk_size l J
      obtain ⟨FT, hFT⟩ : ∃ s : ByteArray, (⟨((chunk l J).headD nilX).1.toArray⟩ : ByteArray) = s := ⟨_, rfl⟩
      rw [hFT] at b0
      have HENTS := Lib.hid (blkents_any FT vb (chunk l J) wr (chunk_w hw J) (by omega) hbody)
      obtain ⟨pv, cv, rfl, _⟩ := hbody.shape
      have c1 := h2.c1
      have hj2 : (J : Int) < (chunksN l : Int) := by omega
      have hNm : chunksN l ≤ 16384 := by unfold chunksN; omega
      generalize chunksN l = N at *
      obtain ⟨n2, hn2⟩ : ∃ n, (chunk l J).length = n := ⟨_, rfl⟩
      rw [hn2] at hcl
      obtain ⟨m, hm⟩ : ∃ m, min (n2 - M) (b - i) = m := ⟨_, rfl⟩
      have hsub1 : (b : Int) - (i : Int) = ((b - i : Nat) : Int) := by omega
      have hsub2 : IntKind.i64.wrap ((b : Int) - (i : Int)) = (b : Int) - (i : Int) := by rw [IntKind.wrap_i64]; omega
      have hmin1 : min ((n2 - M : Nat) : Int) ((b : Int) - (i : Int)) = (m : Int) := by omega
      have hmin2 : min ((n2 - M : Nat) : Int) ((b - i : Nat) : Int) = (m : Int) := by omega
      have hm0 : 0 < m := by omega
      have HNX : Hid ((l.take (i + m)).drop a = (l.take i).drop a ++ ((chunk l J).drop M).take m) := Lib.hid (by rw [cut_more hai hil, chunk_cut (i := i) (by omega) (by omega)])
      have hMn : (M : Int) ≤ (n2 : Int) := by omega
      have HLEN : Hid (((l.take i).drop a).length + (((chunk l J).drop M).take m).length ≤ 262144) := Lib.hid (by rw [List.length_drop, List.length_take, List.length_take, List.length_drop]; omega)
      have HM1 : Hid (M < n2 ∧ m ≤ n2 - M ∧ M + m ≤ 16 ∧ i + m ≤ b) := Lib.hid (by omega)
      have HN2 := Lib.hid hn2
      obtain ⟨AC, hAC⟩ : ∃ A, (l.take i).drop a = A := ⟨_, rfl⟩
      rw [hAC] at HO HNX HLEN
      obtain ⟨pl, cl, rfl, _⟩ := HO.out.any.shape
      have HSW : Hid (w.heap.size ≤ wr.heap.size) := Lib.hid HB.out.size
      clear h2 h3 hbody hFT hcl hJ hM hn2 hm hAC
      go_wp2_with fail
      refine HENTS.out.mono ?_
      rintro e w2 ⟨v2, rfl, ho2, hb2⟩
      obtain ⟨p2, c2, rfl, hl2, hm2, hp2⟩ := ho2.any.shape
      rw [HN2.out] at hl2 ⊢
      have hMc : (M : Int) ≤ (c2 : Int) := by omega
      have hra := ho2.any
      rw [HN2.out] at hra
      obtain ⟨b2, off2, rfl, hb2l, _⟩ := ent_at hra (k := M) (by rw [HN2.out]; exact HM1.out.1)
      have hsr := ((ROn.drop hra M (by omega)).take m HM1.out.2.1)
      rw [if_neg (by omega), Option.map_some, add_at, ent_size] at hsr
      have HSR : Hid (SrcX entC (fun _ => False) w2 _ _) := Lib.hid (src_ent hsr.src)
      have hml : (((chunk l J).drop M).take m).length = m := by rw [List.length_take, List.length_drop, HN2.out]; omega
      have HML := Lib.hid hml
      have hs2 := hb2.size
      have HO2 := Lib.hid (HO.out.keep (kep_below (fun _ => True) hb2) (fun _ _ h => h.elim) (fun _ _ => trivial))
      have HB2 := Lib.hid (HB.out.trans (hb2.mono HSW.out))
      have hcM : c2 ≠ M := by omega
      have hmc : (m : Int) ≤ ((c2 - M : Nat) : Int) := by omega
      have HSW2 : Hid (w.heap.size ≤ w2.heap.size) := Lib.hid (by have := HSW.out; omega)
      clear ho2 hb2 hra hsr hml HO HB HENTS hp2
      go_wp2_with (at_builtin; go_loud (refine wpList_append_x entE rfl _ _ rfl w.heap.size (.slice pl AC.length cl) AC rfl HO2.out (fun _ _ h => h.elim) _ (((chunk l J).drop M).take m) rfl HSR.out (by unfold maxLen; have := HLEN.out; omega) (by have := HLEN.out; omega) HSW2.out ?_; intro v3 w3 ho3 hb3 hk3; have HO3 := Lib.hid ho3; have HB3 := Lib.hid (HB2.out.trans hb3); clear ho3 hb3 hk3 HO2 HB2 HSR))
      rw [← HNX.out] at HO3
      obtain ⟨him1, him2⟩ : i + m ≤ b ∧ i + m ≤ l.length := by have := HM1.out; omega
      go_roundw
      case rel => exact ⟨i + m, by go_num, by omega, him2, .inl him1, HO3, HB3⟩
      case measure => simp [intOf]; omega
    · have q1 : decide ((i : Int) < (b : Int)) = false := by rw [decide_eq_false_iff_not]; omega
      have q2 : decide (i < b) = false := by rw [decide_eq_false_iff_not]; omega
      have he : (l.take b).drop a = (l.take i).drop a := by
        rcases hib with h | h
        · rw [show i = b by omega]
        · subst h
          rw [List.drop_of_length_le (by rw [List.length_take]; omega), List.drop_of_length_le (by rw [List.length_take]; omega)]
      have ho := HO.out
      rw [← he] at ho
      have HO9 := Lib.hid ho
      clear he hlt ho HO
      go_wp2_with fail
      go_ret
      exact ⟨_, rfl, HO9.out, HB.out⟩

set_option maxRecDepth 100000 in
theorem all_any (p : Option Addr) (l : List Ent) (w : World) (hp : DictP (fun _ => True) w p l) (hl : areD l = true) : Calls Try.prog 14 #[.pointer p] w (EntsLeft l w) := by
  have HL := Lib.hid (len_any p l w hp)
  have hb := between_any p l 0 l.length w hp hl (Nat.le_refl _) (Nat.zero_le _)
  rw [List.take_length, List.drop_zero] at hb
  have HB := Lib.hid hb
  clear hb hp
  go_enter Try.func14, Try.ntmps14
  go_wp2_with fail
  refine HL.out.mono ?_
  rintro e w1 ⟨rfl, rfl⟩
  go_wp2_with fail
  refine HB.out.mono ?_
  rintro e w2 ⟨v2, rfl, ho2, hb2⟩
  have HO2 := Lib.hid ho2
  have HB2 := Lib.hid hb2
  clear ho2 hb2 HB HL
  go_wp2_with fail
  go_ret
  exact ⟨_, rfl, HO2.out, HB2.out⟩

set_option maxRecDepth 100000 in
set_option maxHeartbeats 1000000 in
theorem prefix_any (p : Option Addr) (l : List Ent) (u : List UInt8) (w : World) (hp : DictP (fun _ => True) w p l) (hl : areD l = true) : Calls Try.prog 18 #[.pointer p, .string ⟨u.toArray⟩] w (EntsLeft (prefD l u) w) := by
  obtain ⟨hw, hr, hn⟩ := good_all hl
  obtain ⟨R, hR⟩ : ∃ R, w.heap.size = R := ⟨_, rfl⟩
  obtain ⟨wa, hwa⟩ : ∃ W, w.alloc (.cells #[.string ⟨u.toArray⟩] 9) = W := ⟨_, rfl⟩
  have hba : Below w.heap.size w wa := by rw [← hwa]; exact (Below.refl _ _).alloc (Nat.le_refl _) _
  have x2 : wa.cell? ⟨R, 0, none⟩ = some (.string ⟨u.toArray⟩) := by rw [← hwa, ← hR, cell_of_row _ _ 0 _ _ _ (heap_alloc_new w _)]; rfl
  have hsa : wa.heap.size = R + 1 := by rw [← hwa, ← hR]; simp
  have hpa := hp.below hba
  have HF := Lib.hid (floor_any p l u wa hpa hl)
  have HC := Lib.hid (fun W (hW : Below wa.heap.size wa W) => count_any p l 40 _ _ W (hpa.below hW) ((pc_tells R u wa x2).below hW) hw hn)
  have HBT := Lib.hid (fun a b W (hW : Below wa.heap.size wa W) (hb : b ≤ l.length) (ha : a ≤ l.length) => between_any p l a b W (hpa.below hW) hl hb ha)
  have HBA := Lib.hid hba
  have HWA := Lib.hid hwa
  obtain ⟨RES, hRES⟩ : ∃ r, prefD l u = r := ⟨_, rfl⟩
  obtain ⟨c, hc⟩ : ∃ c, floorD l u = c := ⟨_, rfl⟩
  rw [hRES]
  rw [hc] at HF
  have HRES := Lib.hid hRES
  clear hba hwa x2 hp hpa hc hRES
  go_enter Try.func18, Try.ntmps18
  go_wp2_with fail
  rw [HWA.out]
  refine HF.out.mono ?_
  rintro e w1 ⟨rfl, hT1, hb1⟩
  have HC1 := Lib.hid (HC.out w1 hb1)
  have HT1 := Lib.hid hT1
  have HB1 := Lib.hid hb1
  clear hT1 hb1 HC HF
  go_wp2_with fail
  refine HC1.out.mono ?_
  rintro e w2 ⟨d, rfl, hT2, hb2⟩
  have hb12 := HB1.out.trans (hb2.mono HB1.out.size)
  have HBT1 := Lib.hid (HBT.out c d w2 hb12 hT2.1 HT1.out.1)
  have HB2 := Lib.hid hb12
  have HP := Lib.hid (pref_turns hr HT1.out hT2)
  clear hT2 hb2 hb12 HBT HC1 HB1
  go_wp2_with fail
  refine HBT1.out.mono ?_
  rintro e w3 ⟨v3, rfl, ho3, hb3⟩
  have hs2 := HB2.out.size
  have HO3 := Lib.hid (ownx_base ho3 (B' := w.heap.size) (by omega))
  have HB3 := Lib.hid ((HBA.out.trans (HB2.out.mono HBA.out.size)).trans (hb3.mono (by omega)))
  rw [← HP.out, HRES.out] at HO3
  clear ho3 hb3 HBT1
  go_wp2_with fail
  go_ret
  exact ⟨_, rfl, HO3.out, HB3.out⟩
end Go.Proofs.Ytklngjnjnkocmaa.DT
