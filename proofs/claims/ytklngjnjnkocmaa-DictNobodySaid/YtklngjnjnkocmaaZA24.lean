/-
  A dictionary's bytes: the reference's. No condition.
-/
import Derived.Test.YtklngjnjnkocmaaZA23
set_option linter.unusedVariables false
namespace Go.Proofs.Ytklngjnjnkocmaa.DT
open Go Go.RowKit Go.Proofs.Ytklngjnjnkocmaa.MM Go.Proofs.Ytklngjnjnkocmaa.DM Go.Proofs.Ytklngjnjnkocmaa.VM Go.Proofs.Ytklngjnjnkocmaa.VP Go.Proofs.Ytklngjnjnkocmaa.GB

theorem chunk_ok {l : List Ent} (h : ∀ x ∈ l, okX x = true) (j : Nat) : ∀ x ∈ chunk l j, okX x = true := fun x hx => h x (List.mem_of_mem_drop (List.mem_of_mem_take hx))
theorem chunk_len (l : List Ent) (j : Nat) : (chunk l j).length ≤ 16 := by unfold chunk; rw [List.length_take]; omega
theorem chunkB_len {l : List Ent} (h : ∀ x ∈ l, okX x = true) (j : Nat) : (chunkB l j).length ≤ 1860 := by
  unfold chunkB
  rw [List.length_append]
  have h1 := blockB_len (chunk l j) [] (chunk_ok h j)
  have h2 := chunk_len l j
  have h3 := bytesL_length (blockB [] (chunk l j)).length
  omega
theorem encD_len {l : List Ent} (h : areD l = true) : (encD l).length ≤ 1000000000 := by
  obtain ⟨h1, h2⟩ := areD_all h
  have h3 : ∀ js : List Nat, (js.flatMap (chunkB l)).length ≤ 1860 * js.length := fun js => by
    induction js with
    | nil => simp
    | cons j js ih =>
      rw [List.flatMap_cons, List.length_append, List.length_cons]
      have := chunkB_len h2 j
      omega
  unfold encD chunksB
  rw [List.length_append]
  have h4 := h3 ((List.range (chunksN l)).drop 0)
  have h5 := bytesL_length l.length
  have h6 : ((List.range (chunksN l)).drop 0).length = chunksN l := by simp
  have h7 : chunksN l ≤ 16384 := by unfold chunksN; omega
  omega
/-- Bytes and an error's number. -/
def CodeD (l : List UInt8) (x : Int) (w : World) (e : Ending) (w' : World) : Prop := ∃ v, e = .returned (.tuple #[v, .int .i64 x]) ∧ OwnB w.heap.size w' v l ∧ Below w.heap.size w w'

set_option maxRecDepth 100000 in
set_option maxHeartbeats 4000000 in
theorem renc_any (v : Value) (l : List Ent) (w : World) (hv : RAny entC w v l) : Calls Try.prog 10 #[v] w (CodeD (if areD l then encD l else []) (if areD l then 0 else 110) w) := by
  obtain ⟨p, cap, rfl, hlc, hcm, _⟩ := hv.shape
  unfold maxLen at hcm
  have HV := Lib.hid hv
  have K0 := Lib.hid (rare_any _ l w hv)
  by_cases hA : areD l = true
  · rw [hA] at K0
    rw [if_pos hA, if_pos hA]
    have HX := Lib.hid (areD_all hA).2
    have hn := (areD_all hA).1
    have HEL := Lib.hid (encD_len hA)
    obtain ⟨E, hE⟩ : ∃ E, encD l = E := ⟨_, rfl⟩
    have HE0 : Hid (bytesL l.length ++ chunksB l 0 = E) := Lib.hid hE
    rw [hE] at HEL ⊢
    have K1 := fun W => Lib.hid (rnum_any (l.length : Int) W (by omega) (by omega))
    simp only [Int.toNat_natCast] at K1
    have HK1 := Lib.hid K1
    clear hA hE hv K1
    go_enter Try.func10, Try.ntmps10
    go_wp2_with fail
    refine K0.out.mono ?_
    rintro e w1 ⟨rfl, hb1⟩
    have HB1 := Lib.hid hb1
    clear hb1 K0
    go_wp2_with fail
    refine (HK1.out w1).out.mono ?_
    rintro e w2 ⟨v2, rfl, ho2, hb2⟩
    have HO2 : Hid (OwnB w.heap.size w2 v2 (bytesL l.length)) := Lib.hid (OwnB.weaken ho2 HB1.out.size)
    have HB2 := Lib.hid (HB1.out.trans (hb2.mono HB1.out.size))
    clear ho2 hb2 HB1 HK1
    go_wp2_with fail
    go_loopw [4, 5] (fun bv iv wr => ∃ (a j : Nat) (L : List UInt8), iv = .int .i64 a ∧ Hid (a = 16 * j ∧ j ≤ chunksN l ∧ a ≤ l.length + 15) ∧ Hid (L ++ chunksB l j = E) ∧ Hid (OwnB w.heap.size wr bv L) ∧ Hid (Below w.heap.size w wr)) (fun _ iv _ => l.length + 16 - (intOf iv).toNat)
    case atStart => exact ⟨0, 0, bytesL l.length, rfl, Lib.hid ⟨rfl, Nat.zero_le _, by omega⟩, HE0, HO2, HB2⟩
    case round =>
      obtain ⟨a, j, L, rfl, HJ, HL, HO, HB⟩ := hrel
      clear HE0 HO2 HB2
      by_cases hlt : a < l.length
      · have q1 : decide ((a : Int) < (l.length : Int)) = true := by rw [decide_eq_true_eq]; omega
        have q2 : decide (a < l.length) = true := by rw [decide_eq_true_eq]; omega
        obtain ⟨e, he⟩ : ∃ e, min l.length (a + 16) = e := ⟨_, rfl⟩
        have hea : a < e := by omega
        have hel : e ≤ l.length := by omega
        have hmin : min (l.length : Int) ((a : Int) + 16) = (e : Int) := by omega
        have hw16 : IntKind.i64.wrap ((a : Int) + 16) = (a : Int) + 16 := by rw [IntKind.wrap_i64]; omega
        have q3 : (a : Int) ≤ (e : Int) := by omega
        have q4 : (e : Int) ≤ (cap : Int) := by omega
        have hch : (l.drop a).take (e - a) = chunk l j := by
          unfold chunk
          rw [← HJ.out.1, ← he]
          by_cases h : a + 16 ≤ l.length
          · rw [show min l.length (a + 16) - a = 16 by omega]
          · rw [List.take_of_length_le (by rw [List.length_drop]; omega), List.take_of_length_le (by rw [List.length_drop]; omega)]
        have hjn : j < chunksN l := by unfold chunksN; have := HJ.out.1; omega
        have hnx := HL.out
        rw [chunksB_next hjn] at hnx
        have hvw := RAny.below HV.out HB.out
        obtain ⟨b, off, hbo, hbl, _⟩ := ent_at hvw hlt
        subst hbo
        have hrow := (ROn.drop hvw a (by omega)).take (e - a) (by omega)
        rw [hch, if_neg (by omega), Option.map_some, add_at, ent_size] at hrow
        have HBL := Lib.hid (fun W (h : Below w.heap.size wr W) => h)
        have HCH := Lib.hid (rblock_any _ (chunk l j) wr hrow (chunk_ok HX.out j) (by have := chunk_len l j; omega))
        have hcl := blockB_len (chunk l j) [] (chunk_ok HX.out j)
        have hcl2 := chunk_len l j
        have hLE : L.length ≤ E.length := by rw [← HL.out, List.length_append]; omega
        have hEE := HEL.out
        unfold chunkB at hnx
        obtain ⟨C, hC⟩ : ∃ C, blockB [] (chunk l j) = C := ⟨_, rfl⟩
        rw [hC] at hnx HCH hcl
        have HN : Hid ((L ++ bytesL C.length ++ C) ++ chunksB l (j + 1) = E) := Lib.hid (by rw [← hnx]; simp only [List.append_assoc])
        have hCb : C.length ≤ 2000 := by omega
        have hNB := bytesL_length C.length
        have HJ2 : Hid (a + 16 = 16 * (j + 1) ∧ j + 1 ≤ chunksN l ∧ a + 16 ≤ l.length + 15) := Lib.hid ⟨by have := HJ.out.1; omega, hjn, by omega⟩
        have K1 := fun W => rnum_any (C.length : Int) W (by omega) (by omega)
        simp only [Int.toNat_natCast] at K1
        have HK1 := Lib.hid K1
        clear hnx hvw hrow hcl hcl2 hC hch hjn HL HJ K1 HBL he
        go_wp2_with fail
        refine HCH.out.mono ?_
        rintro e w3 ⟨v3, rfl, ho3, hb3⟩
        have hs3 : w.heap.size ≤ wr.heap.size := HB.out.size
        have hu3 : ∀ g, u4.ownBlock = some g → g < wr.heap.size := fun g hg => (World.ownsRow.lt HO.out g hg).2
        have HO3 := Lib.hid (HO.out.keep hb3)
        have HB3 := Lib.hid (HB.out.trans (hb3.mono hs3))
        obtain ⟨px, cx, rfl, hcx1, hcx2⟩ := ho3.brow.shape
        unfold maxLen at hcx2
        have HX3 := Lib.hid ho3
        clear ho3 HO HB HCH
        go_wp2_with fail
        refine (HK1.out w3).mono ?_
        rintro e w4 ⟨v4, rfl, ho4, hb4⟩
        have hs4 : w.heap.size ≤ w3.heap.size := HB3.out.size
        have HN4 := Lib.hid ho4
        have HO4 := Lib.hid (HO3.out.keep hb4)
        have HX4 := Lib.hid (HX3.out.keep hb4)
        have HB4 := Lib.hid (HB3.out.trans (hb4.mono hs4))
        have hs5 : w.heap.size ≤ w4.heap.size := HB4.out.size
        clear ho4 hb4 hb3 HO3 HX3 HB3 HK1
        go_wp2_with (at_builtin; first | (go_loud (refine wpList_append_grown rfl _ _ rfl u4 L rfl (OwnB.zero HO4.out) _ (bytesL C.length) rfl HN4.out.brow (bytesL_ne _) (by omega) ?_; intro v5 w5 ho5 hg5; have hk5 := hg5.kep; have HX5 := Lib.hid (show OwnB wr.heap.size w5 (.slice px C.length cx) C from own_row_kep HX4.out hk5 (fun g hg e => by have := hu3 g e; have := (World.ownsRow.lt HX4.out g hg).1; omega)); have HO5 := Lib.hid (OwnB.from (B := w.heap.size) ho5 (fun k hk => by rcases hg5.2 k hk with e | e; exact (World.ownsRow.lt HO4.out k e).1; omega)); have HB5 := Lib.hid (HB4.out.trans (hk5.below (B := w.heap.size) hs5 (fun k hk e => by have := (World.ownsRow.lt HO4.out k e).1; omega))); clear ho5 hg5 hk5)) | (go_loud (refine wpList_append_bytes rfl _ _ rfl w.heap.size v5 (L ++ bytesL C.length) rfl HO5.out _ C rfl HX5.out.brow (by rw [List.length_append]; omega) HB5.out.size ?_; intro v6 w6 ho6 hb6; have HO6 := Lib.hid ho6; have HB6 := Lib.hid (HB5.out.trans hb6); clear ho6 hb6)))
        go_roundw
        case rel => exact ⟨a + 16, j + 1, L ++ bytesL C.length ++ C, by go_num, HJ2, HN, HO6, HB6⟩
        case measure => simp [intOf]; omega
      · have q1 : decide ((a : Int) < (l.length : Int)) = false := by rw [decide_eq_false_iff_not]; omega
        have q2 : decide (a < l.length) = false := by rw [decide_eq_false_iff_not]; omega
        have hj : chunksN l ≤ j := by unfold chunksN; have := HJ.out.1; omega
        have hl := HL.out
        rw [chunksB_end hj, List.append_nil] at hl
        have ho := HO.out
        rw [hl] at ho
        have HO9 := Lib.hid ho
        clear hl ho HO HL HJ hj hlt
        go_wp2_with fail
        go_ret2
        exact ⟨_, rfl, HO9.out, HB.out⟩
  · have hA : areD l = false := by simpa using hA
    rw [hA] at K0 ⊢
    clear hA hv
    go_enter Try.func10, Try.ntmps10
    go_wp2_with fail
    refine K0.out.mono ?_
    rintro e w1 ⟨rfl, hb1⟩
    have HB1 := Lib.hid hb1
    clear hb1 K0
    go_wp2_with fail
    go_ret2
    exact ⟨_, rfl, World.ownsRow_nil _ _ _ _, HB1.out⟩
end Go.Proofs.Ytklngjnjnkocmaa.DT
