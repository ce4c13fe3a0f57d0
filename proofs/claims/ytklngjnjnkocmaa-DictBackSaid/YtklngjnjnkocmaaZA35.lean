/-
  The code's dictionary in memory: how many, blocks; a block's entries; Len, At. No condition.
-/
import Derived.Test.YtklngjnjnkocmaaZA33
import Derived.Test.YtklngjnjnkocmaaZA34
import Derived.Test.YtklngjnjnkocmaaZA28
set_option linter.unusedVariables false
namespace Go.Proofs.Ytklngjnjnkocmaa.DT
open Go Go.RowKit Go.Proofs.Ytklngjnjnkocmaa.MM Go.Proofs.Ytklngjnjnkocmaa.DM Go.Proofs.Ytklngjnjnkocmaa.VM

/-! ### blocks -/
abbrev Blk := List UInt8 × List UInt8
def blkC : Codec Blk := cPair cStr (cRow cU8)
theorem blk_on {S : Nat → Prop} {w : World} {cs : List Value} {x : Blk} : blkC.on S w cs x ↔ ∃ v, cs = [.string ⟨x.1.toArray⟩, v] ∧ ROn cU8 S w v x.2 := by
  constructor
  · rintro ⟨a, b, rfl, ha, v, rfl, hv⟩
    have ha : a = [.string ⟨x.1.toArray⟩] := ha
    exact ⟨v, by rw [ha]; rfl, hv⟩
  · rintro ⟨v, rfl, hv⟩
    exact ⟨[_], [v], rfl, rfl, v, rfl, hv⟩
/-- A block, out of its entries. -/
def blkOf (c : List Ent) : Blk := ((c.headD nilX).1, blockB [] c)
def blksOf (l : List Ent) : List Blk := (chunksOf l).map blkOf
theorem blksOf_len (l : List Ent) : (blksOf l).length = chunksN l := by unfold blksOf; rw [List.length_map, chunksOf_len]
theorem blksOf_at {l : List Ent} {j : Nat} (h : j < (blksOf l).length) : (blksOf l)[j] = blkOf (chunk l j) := by
  unfold blksOf at h ⊢
  rw [List.getElem_map, chunksOf_at]
theorem bytes_in {S : Nat → Prop} {B : Nat} {w : World} {v : Value} {l : List UInt8} (h : ROn cU8 S w v l) (hS : ∀ b, b < w.heap.size → S b → b < B) : BIn B w v l := ron_row h hS
theorem bytes_any {w : World} {v : Value} {l : List UInt8} (h : RAny cU8 w v l) : BIn w.heap.size w v l := bytes_in h fun b hb _ => hb
/-- The k-th block's two cells. -/
theorem blk_at {w : World} {p : Option Addr} {n cap : Nat} {l : List Ent} (h : RAny blkC w (.slice p n cap) (blksOf l)) {k : Nat} (hk : k < chunksN l) :
    ∃ b off v, p = some ⟨b, off, none⟩ ∧ b < w.heap.size ∧ w.cell? ⟨b, off + k * 2, none⟩ = some (.string ⟨((chunk l k).headD nilX).1.toArray⟩) ∧ w.cell? ⟨b, off + k * 2 + 1, none⟩ = some v ∧ BIn w.heap.size w v (blockB [] (chunk l k)) := by
  have hk' : k < (blksOf l).length := by rw [blksOf_len]; exact hk
  obtain ⟨b, off, vs, hp, hlt, _, hon, hc⟩ := h.at_ hk'
  rw [blk_on] at hon
  obtain ⟨v, rfl, hv⟩ := hon
  rw [blksOf_at] at hv hc
  exact ⟨b, off, v, hp, hlt, hc 0 _ rfl, hc 1 _ rfl, bytes_any hv⟩

/-! ### dictionaries -/
/-- A dictionary's object: how many entries, their blocks. -/
def DictAt (S : Nat → Prop) (w : World) (g : Nat) (l : List Ent) : Prop := ∃ v, Two w g 55 (.int .i64 (l.length : Int)) v ∧ S g ∧ ROn blkC S w v (blksOf l)
theorem DictAt.keep {S T : Nat → Prop} {w w' : World} {g : Nat} {l : List Ent} (h : DictAt S w g l) (hk : Kep S w w') (hT : ∀ b, b < w.heap.size → S b → T b) : DictAt T w' g l := by
  obtain ⟨v, h1, h2, h3⟩ := h
  exact ⟨v, h1.keep hk h2, hT g h1.lt h2, h3.keep hk hT⟩
/-- A pointer to such a one, or none. -/
def DictP (S : Nat → Prop) (w : World) (p : Option Addr) (l : List Ent) : Prop := (p = none ∧ l = []) ∨ ∃ g, p = some ⟨g, 0, none⟩ ∧ DictAt S w g l
theorem DictP.keep {S T : Nat → Prop} {w w' : World} {p : Option Addr} {l : List Ent} (h : DictP S w p l) (hk : Kep S w w') (hT : ∀ b, b < w.heap.size → S b → T b) : DictP T w' p l := by
  rcases h with h | ⟨g, h1, h2⟩
  · exact .inl h
  · exact .inr ⟨g, h1, h2.keep hk hT⟩
theorem DictP.below {w w' : World} {p : Option Addr} {l : List Ent} (h : DictP (fun _ => True) w p l) (hb : Below w.heap.size w w') : DictP (fun _ => True) w' p l := h.keep (kep_below _ hb) fun _ _ h => h
theorem DictP.any {S : Nat → Prop} {w : World} {p : Option Addr} {l : List Ent} (h : DictP S w p l) : DictP (fun _ => True) w p l := h.keep (Kep.refl _ _) fun _ _ _ => trivial

set_option maxRecDepth 100000 in
theorem len_any (p : Option Addr) (l : List Ent) (w : World) (h : DictP (fun _ => True) w p l) : Calls Try.prog 23 #[.pointer p] w fun e w' => e = .returned (.int .i64 (l.length : Int)) ∧ w = w' := by
  rcases h with ⟨rfl, rfl⟩ | ⟨g, rfl, v, h2, _⟩
  · go_enter Try.func23, Try.ntmps23
    go_wp2_with fail
    go_ret
    exact ⟨rfl, rfl⟩
  · have c0 := h2.c0
    clear h2
    go_enter Try.func23, Try.ntmps23
    go_wp2_with fail
    go_ret
    exact ⟨rfl, rfl⟩

/-- Entries of the call's own. -/
def EntsLeft (l : List Ent) (w : World) (e : Ending) (w' : World) : Prop := ∃ v', e = .returned v' ∧ OwnX entC 42 w.heap.size (fun _ => False) w' v' l ∧ Below w.heap.size w w'

set_option maxRecDepth 100000 in
set_option maxHeartbeats 1000000 in
theorem blkents_any (f : ByteArray) (v : Value) (c : List Ent) (w : World) (hc : ∀ x ∈ c, okW x) (hl : c.length ≤ 16) (hv : BIn w.heap.size w v (blockB [] c)) : Calls Try.prog 43 #[.agg #[.string f, v]] w (EntsLeft c w) := by
  obtain ⟨wa, hwa⟩ : ∃ wa, w.alloc (.cells #[.string f, v] 77) = wa := ⟨_, rfl⟩
  have hba : Below w.heap.size w wa := by rw [← hwa]; exact (Below.refl _ _).alloc (Nat.le_refl _) _
  have T0 : Two wa w.heap.size 77 (.string f) v := by rw [← hwa]; exact two_new w 77 _ _
  have c0 := T0.c0
  have c1 := T0.c1
  have hs := hba.size
  have H := entsof_any w.heap.size v (blockB [] c) wa (hv.below hba) hs
  rw [ents_put c 16 [] [] false hc (by simp) hl] at H
  have H1 := Lib.hid H
  have HBA := Lib.hid hba
  have HWA := Lib.hid hwa
  obtain ⟨p, cp, rfl, _⟩ := hv.shape
  clear H hba hwa hv T0
  go_enter Try.func43, Try.ntmps43
  go_wp2_with fail
  rw [HWA.out]
  go_wp2_with fail
  refine H1.out.mono ?_
  rintro e w1 ⟨v1, rfl, ho, hb⟩
  have HO := Lib.hid ho
  have HB := Lib.hid (HBA.out.trans (hb.mono hs))
  clear ho hb H1
  go_wp2_with fail
  go_ret
  exact ⟨_, rfl, ownx_base HO.out hs, HB.out⟩

/-- The i-th entry. -/
def atD (l : List Ent) (i : Int) : Option Ent := if 0 ≤ i ∧ i < (l.length : Int) then l[i.toNat]? else none
theorem chunk_w {l : List Ent} (h : ∀ x ∈ l, okW x) (j : Nat) : ∀ x ∈ chunk l j, okW x := fun x hx => h x (List.mem_of_mem_drop (List.mem_of_mem_take hx))

set_option maxRecDepth 100000 in
set_option maxHeartbeats 1000000 in
theorem at_any (p : Option Addr) (l : List Ent) (i : Int) (w : World) (h : DictP (fun _ => True) w p l) (hw : ∀ x ∈ l, okW x) (hn : l.length ≤ 262144) (h0 : -9223372036854775808 ≤ i) (h1 : i ≤ 9223372036854775807) : Calls Try.prog 22 #[.pointer p, .int .i64 i] w (Found (atD l i) w) := by
  obtain ⟨R, hR⟩ : ∃ R, w.heap.size = R := ⟨_, rfl⟩
  obtain ⟨wa, hwa⟩ : ∃ wa, w.alloc (.cells #[.string ⟨#[]⟩, .int .i64 0, .int .i64 0, .int .i64 0] 42) = wa := ⟨_, rfl⟩
  have hba : Below w.heap.size w wa := by rw [← hwa]; exact (Below.refl _ _).alloc (Nat.le_refl _) _
  have FR0 : Hid (Four wa R 42 (.string ⟨#[]⟩) (.int .i64 0) (.int .i64 0) (.int .i64 0)) := Lib.hid (by rw [← hwa, ← hR]; exact four_new w 42 _ _ _ _)
  have hsa : wa.heap.size = R + 1 := by rw [← hwa, ← hR]; simp
  have hd := h.below hba
  have HLEN := Lib.hid (len_any p l wa hd)
  have HB0 := Lib.hid hba
  have HWA := Lib.hid hwa
  clear hwa hba h
  by_cases hi : 0 ≤ i ∧ i < (l.length : Int)
  · obtain ⟨k, rfl⟩ := Int.eq_ofNat_of_zero_le hi.1
    have hk : k < l.length := by omega
    have hf : atD l (k : Int) = some l[k] := by unfold atD; rw [if_pos hi, Int.toNat_natCast, List.getElem?_eq_getElem hk]
    rw [hf]
    clear hf
    have q1 : decide ((k : Int) < 0) = false := by rw [decide_eq_false_iff_not]; omega
    have q2 : decide ((k : Int) ≥ (l.length : Int)) = false := by rw [decide_eq_false_iff_not]; omega
    have q3 : decide (k ≥ l.length) = false := by rw [decide_eq_false_iff_not]; omega
    have q4 : decide (l.length ≤ k) = false := by rw [decide_eq_false_iff_not]; omega
    rcases hd with ⟨_, rfl⟩ | ⟨g, rfl, v, h2, _, h3⟩
    · simp at hk
    have hj : k / 16 < chunksN l := by unfold chunksN; omega
    obtain ⟨pb, cb, rfl, hcb, hcm, _⟩ := h3.shape
    rw [blksOf_len] at h3 h2 hcb
    obtain ⟨bb, off, vb, rfl, hbl, b0, b1, hbody⟩ := blk_at h3 hj
    obtain ⟨J, hJ⟩ : ∃ J, k / 16 = J := ⟨_, rfl⟩
    obtain ⟨M, hM⟩ : ∃ M, k % 16 = M := ⟨_, rfl⟩
    have d1 : (k : Int) / 16 = (J : Int) := by omega
    have d2 : (k : Int).tdiv 16 = (J : Int) := by rw [Int.tdiv_eq_ediv_of_nonneg (by omega)]; omega
    have d3 : (k : Int) % 16 = (M : Int) := by omega
    have d4 : (k : Int).tmod 16 = (M : Int) := by rw [Int.tmod_eq_emod_of_nonneg (by omega)]; omega
    rw [hJ] at b0 b1 hbody hj
    have hcl : (chunk l J).length = min 16 (l.length - 16 * J) := chunk_size l J
    have hMl : M < (chunk l J).length := by omega
    have hlk : l[k] = (chunk l J)[M] := by rw [chunk_at hMl]; congr 1; omega
    rw [hlk]
    obtain ⟨FT, hFT⟩ : ∃ s : ByteArray, (⟨((chunk l J).headD nilX).1.toArray⟩ : ByteArray) = s := ⟨_, rfl⟩
    rw [hFT] at b0
    clear hFT
    have HENTS := Lib.hid (blkents_any FT vb (chunk l J) wa (chunk_w hw J) (by omega) hbody)
    obtain ⟨pv, cv, rfl, _⟩ := hbody.shape
    have c1 := h2.c1
    have hj2 : (J : Int) < (chunksN l : Int) := by omega
    obtain ⟨X, hX⟩ : ∃ X, (chunk l J)[M] = X := ⟨_, rfl⟩
    rw [hX]
    obtain ⟨X1, x2, x3, x4⟩ := X
    have HX := Lib.hid hX
    have HML := Lib.hid hMl
    have HHM : Hid (chunksN l ≤ 16384) := Lib.hid (by unfold chunksN; omega)
    generalize chunksN l = N at *
    have hMi : (M : Int) < ((chunk l J).length : Int) := by omega
    clear hi hk hJ hM h2 h3 hbody hlk hcl hX
    go_enter Try.func22, Try.ntmps22
    go_wp2_with fail
    rw [HWA.out]
    refine HLEN.out.mono ?_
    rintro e w1 ⟨rfl, rfl⟩
    go_wp2_with fail
    refine HENTS.out.mono ?_
    rintro e w2 ⟨v2, rfl, ho2, hb2⟩
    obtain ⟨p2, c2, rfl, hl2, _⟩ := ho2.any.shape
    have HO2 := ho2.any
    obtain ⟨b2, off2, rfl, hb2l, _, e0, e1, e2, e3⟩ := ent_at HO2 HML.out
    rw [HX.out] at e0 e1 e2 e3
    have FR2 := FR0.out.below hb2 (by omega)
    have hs2 := hb2.size
    obtain ⟨m1, m2, m3, m4, ⟨k1, k2⟩, ⟨k3, k4⟩, k5, k6⟩ := FR2.all (.string ⟨X1.toArray⟩) (.int .i64 x2) (.int .i64 x3)
    have n0 := FR2.c0
    have HXX := Lib.hid (FR2.set (.string ⟨X1.toArray⟩) (.int .i64 x2) (.int .i64 x3) (.int .i64 x4))
    have HB9 := Lib.hid ((HB0.out.trans (hb2.mono (by omega))).trans ((kep_set4 (g := R) (w := w2) (.string ⟨X1.toArray⟩) (.int .i64 x2) (.int .i64 x3) (.int .i64 x4)).below (B := w.heap.size) (by omega) (fun b hb => by omega)))
    clear ho2 hb2 HO2 FR2 HENTS HLEN FR0
    go_wp2_with fail
    refine bodyPost_ret (results_four2 (p := 4) (u := 5) rfl Try.underlying42 rfl infoEnt _ _ R _ _ _ _ rfl HXX.out) rfl ?_
    exact ⟨rfl, HB9.out⟩
  · have hf : atD l i = none := by unfold atD; rw [if_neg hi]
    rw [hf]
    have f0 := FR0.out
    obtain ⟨m1, m2, m3, m4, ⟨k1, k2⟩, ⟨k3, k4⟩, k5, k6⟩ := f0.all (.string ⟨#[]⟩) (.int .i64 0) (.int .i64 0)
    obtain ⟨n0, n1, n2, n3⟩ := f0.cells
    have HXX := FR0
    have HB9 := HB0
    have HX2 := Lib.hid (f0.set (.string ⟨#[]⟩) (.int .i64 0) (.int .i64 0) (.int .i64 0))
    have HB8 := Lib.hid (HB0.out.trans ((kep_set4 (g := R) (w := wa) (.string ⟨#[]⟩) (.int .i64 0) (.int .i64 0) (.int .i64 0)).below (B := w.heap.size) (by omega) (fun b hb => by omega)))
    by_cases hneg : i < 0
    · have q1 : decide (i < 0) = true := by rw [decide_eq_true_eq]; omega
      clear hi hf hd f0 hneg FR0
      go_enter Try.func22, Try.ntmps22
      go_wp2_with fail
      rw [HWA.out]
      go_wp2_with fail
      refine bodyPost_ret (results_four2 (p := 4) (u := 5) rfl Try.underlying42 rfl infoEnt _ _ R _ _ _ _ rfl HXX.out) rfl ?_
      exact ⟨rfl, HB9.out⟩
    · have q1 : decide (i < 0) = false := by rw [decide_eq_false_iff_not]; omega
      have q2 : decide (i ≥ (l.length : Int)) = true := by rw [decide_eq_true_eq]; omega
      have q3 : decide ((l.length : Int) ≤ i) = true := by rw [decide_eq_true_eq]; omega
      clear hi hf hd f0 hneg FR0
      go_enter Try.func22, Try.ntmps22
      go_wp2_with fail
      rw [HWA.out]
      refine HLEN.out.mono ?_
      rintro e w1 ⟨rfl, rfl⟩
      go_wp2_with fail
      refine bodyPost_ret (results_four2 (p := 4) (u := 5) rfl Try.underlying42 rfl infoEnt _ _ R _ _ _ _ rfl HX2.out) rfl ?_
      exact ⟨rfl, HB8.out⟩
end Go.Proofs.Ytklngjnjnkocmaa.DT
