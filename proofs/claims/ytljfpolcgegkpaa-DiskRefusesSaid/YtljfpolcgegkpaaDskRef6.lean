/-
  The reference's Append: what the plain lists say. Condition: few files, few bytes.
-/
import Derived.Test.YtljfpolcgegkpaaDskRef5
import Derived.Test.YtljfpolcgegkpaaReg
set_option linter.unusedVariables false
namespace Go.Proofs.Ytljfpolcgegkpaa.DK
open Go.RowKit Go.Proofs.Ytljfpolcgegkpaa.MM
variable {XB : Nat → Prop}

/-- A file in a variable. -/
def FileAt (w : World) (g : Nat) (vb : Value) (f : FileD) : Prop := w.heap[g]? = some (.cells #[strV f.name, vb, .int .i64 (f.sure : Int)] 48 (0, 0))
theorem FileAt.below {w w' : World} {g B : Nat} {vb : Value} {f : FileD} (h : FileAt w g vb f) (hb : Below B w w') (hg : g < B) : FileAt w' g vb f := (hb.block g hg).trans h
theorem FileAt.lt {w : World} {g : Nat} {vb : Value} {f : FileD} (h : FileAt w g vb f) : g < w.heap.size := (Array.getElem?_eq_some_iff.1 h).1
theorem FileAt.name {w : World} {g : Nat} {vb : Value} {f : FileD} (h : FileAt w g vb f) : w.cell? ⟨g, 0, none⟩ = some (.string ⟨f.name.toArray⟩) := by rw [cell_of_row w g 0 _ _ _ h]; rfl
theorem FileAt.bytes {w : World} {g : Nat} {vb : Value} {f : FileD} (h : FileAt w g vb f) : w.cell? ⟨g, 1, none⟩ = some vb := by rw [cell_of_row w g 1 _ _ _ h]; rfl
theorem FileAt.sure {w : World} {g : Nat} {vb : Value} {f : FileD} (h : FileAt w g vb f) : w.cell? ⟨g, 2, none⟩ = some (.int .i64 (f.sure : Int)) := by rw [cell_of_row w g 2 _ _ _ h]; rfl
theorem FileAt.free {w : World} {g : Nat} {vb : Value} {f : FileD} (h : FileAt w g vb f) (k : Nat) : w.frozen? ⟨g, k, none⟩ = false := frozen_of_row w g k _ _ h
theorem file_three {w : World} {g : Nat} {v0 : Value} {f0 : FileD} (h : FileAt w g v0 f0) (vb : Value) (f : FileD) : FileAt (((w.setCell ⟨g, 0, none⟩ (.string ⟨f.name.toArray⟩)).setCell ⟨g, 1, none⟩ vb).setCell ⟨g, 2, none⟩ (.int .i64 (f.sure : Int))) g vb f := by
  have h1 := heap_setCell_same w g 0 _ _ (.string ⟨f.name.toArray⟩) h
  have h2 := heap_setCell_same _ g 1 _ _ vb h1
  exact heap_setCell_same _ g 2 _ _ (.int .i64 (f.sure : Int)) h2
theorem own_empty (w : World) (B : Nat) (hB : B ≤ w.heap.size) : OwnB B (w.alloc (.cells #[] 5)) (.slice (some ⟨w.heap.size, 0, none⟩) 0 0) [] := own_lit w [] 5 B hB (by unfold maxLen; simp)
/-- A row of bytes is kept when nothing has turned but one block that holds no bytes. -/
theorem BIn.other {A k : Nat} {w w' : World} {v : Value} {l : List UInt8} (h : BIn A w v l) (hno : ∀ i x, w.cell? ⟨k, i, none⟩ ≠ some (.int .u8 x)) (hb : ∀ b, b ≠ k → w'.heap[b]? = w.heap[b]?) : BIn A w' v l := by
  obtain ⟨p, cap, hv, h1, h2, h3, h4⟩ := h
  refine ⟨p, cap, hv, h1, h2, h3, ?_⟩
  rcases h4 with h4 | ⟨b, off, hp, hlt, hc⟩
  · exact .inl h4
  · refine .inr ⟨b, off, hp, hlt, fun i u hi => ?_⟩
    have hbk : b ≠ k := by
      rintro rfl
      have hm := List.mem_of_getElem? hi
      simp only [Lib.byteCells, List.mem_map] at hm
      obtain ⟨x, _, rfl⟩ := hm
      exact hno _ _ (hc i _ hi)
    rw [World.cell?_of_block (w := w) (hb b hbk)]
    exact hc i u hi
theorem BX.other {A k : Nat} {w w' : World} {v : Value} {l : List UInt8} (h : BX XB A w v l) (hno : ∀ i x, w.cell? ⟨k, i, none⟩ ≠ some (.int .u8 x)) (hb : ∀ b, b ≠ k → w'.heap[b]? = w.heap[b]?) : BX XB A w' v l := ⟨BIn.other h.bin hno hb, h.nx⟩
theorem BoxAt.noByte {w : World} {k : Nat} {p : Option Addr} {n c : Nat} {d : DiskD} (h : BoxAt w k (.slice p n c) d) : ∀ i x, w.cell? ⟨k, i, none⟩ ≠ some (.int .u8 x) := by
  intro i x
  rw [cell_of_row w k i _ _ _ h]
  match i with
  | 0 => simp
  | 1 => simp
  | 2 => simp
  | 3 => simp
  | i + 4 => simp
theorem end_other {A B k : Nat} {w W : World} {L : Value} {p : Option Addr} {n c : Nat} {d dx : DiskD} (hy : BoxAt W k (.slice p n c) dx) (hL : OwnF XB A B W L d.L) (hA : A ≤ W.heap.size) (hk : w.heap.size ≤ k) (hkB : k < B) (hW : Below w.heap.size w W) (hX : ∀ k, XB k → k < w.heap.size) :
    BoxAt (putBox W k L d) k L d ∧ RDisk XB (putBox W k L d).heap.size (putBox W k L d) (diskV L d) d ∧ Below w.heap.size w (putBox W k L d) := by
  have hb : Below w.heap.size w (putBox W k L d) := (((hW.setCell (p := ⟨k, 0, none⟩) hk _).setCell (p := ⟨k, 1, none⟩) hk _).setCell (p := ⟨k, 2, none⟩) hk _).setCell (p := ⟨k, 3, none⟩) hk _
  have hot : ∀ b, b ≠ k → (putBox W k L d).heap[b]? = W.heap[b]? := fun b hbk => by
    unfold putBox
    rw [heap_setCell_other _ ⟨k, 3, none⟩ b _ hbk, heap_setCell_other _ ⟨k, 2, none⟩ b _ hbk, heap_setCell_other _ ⟨k, 1, none⟩ b _ hbk, heap_setCell_other _ ⟨k, 0, none⟩ b _ hbk]
  have hsz : (putBox W k L d).heap.size = W.heap.size := by
    unfold putBox
    simp only [World.setCell, Array.size_modify]
  obtain ⟨ps, h1, h2, h3⟩ := hL
  have ho : OwnF XB A B (putBox W k L d) L d.L := ⟨ps, h1, ownsRow_setCell_below (ownsRow_setCell_below (ownsRow_setCell_below (ownsRow_setCell_below h2 (a := ⟨k, 0, none⟩) hkB _) (a := ⟨k, 1, none⟩) hkB _) (a := ⟨k, 2, none⟩) hkB _) (a := ⟨k, 3, none⟩) hkB _, fun q hq => BX.other (h3 q hq) hy.noByte hot⟩
  exact ⟨box_four hy L d, ⟨L, rfl, ho.files (by rw [hsz]; exact hA) (fun i hi => by have := hX i hi; omega)⟩, hb⟩
set_option maxRecDepth 100000 in
set_option maxHeartbeats 4000000 in
theorem rappend_on (B : Nat) (L : Value) (dl : List FileD) (dq da : Int) (n : List UInt8) (w : World) (hL : FilesIn XB B w L dl) (hB : B ≤ w.heap.size) (hl : dl.length ≤ 1000000) (hn : n.length ≤ 1000000000) (vb : Value) (b : List UInt8) (hvb : BIn B w vb b) (hbl : b.length ≤ 1000000000) (hnl : ∀ g ∈ dl, g.name.length ≤ 1000000000) (hfl : ∀ g ∈ dl, g.b.length ≤ 1000000000) (hul : usedL dl ≤ 1000000000000000) (hq1 : dq ≤ 9223372036854775807) (ha0 : 0 ≤ da) (ha1 : da ≤ 9223372036854775807) (hXB : ∀ k, XB k → k < w.heap.size) :
    Calls Try.prog 35 #[diskV L (⟨dl, dq, da, false⟩ : DiskD), .string ⟨n.toArray⟩, vb] w (TwoDisk XB (appendD (⟨dl, dq, da, false⟩ : DiskD) n b) w) := by
  have HXB := Lib.hid hXB
  clear hXB
  obtain ⟨p, cap, rfl, hlc, hcm⟩ := hL.shape
  obtain ⟨pv, capv, rfl, hvc, hvm⟩ := hvb.shape
  have HVB := Lib.hid hvb
  have HU := Lib.hid (fun W (h : Below w.heap.size w W) => used_any B (diskV (.slice p dl.length cap) (⟨dl, dq, da, false⟩ : DiskD)) (⟨dl, dq, da, false⟩ : DiskD) W ⟨_, rfl, hL.below (h.mono hB)⟩ (Nat.le_trans hB h.size) (by show dl.length ≤ _; omega) hul)
  obtain ⟨R, hR⟩ : ∃ R, appendD (⟨dl, dq, da, false⟩ : DiskD) n b = R := ⟨_, rfl⟩
  rw [hR]
  have HN := Lib.hid (fun W => named_any ⟨n.toArray⟩ n W rfl (by omega))
  have HF := Lib.hid (fun W (h : Below w.heap.size w W) => find_any B (diskV (.slice p dl.length cap) (⟨dl, dq, da, false⟩ : DiskD)) (⟨dl, dq, da, false⟩ : DiskD) n W ⟨_, rfl, hL.below (h.mono hB)⟩ (Nat.le_trans hB h.size) (by show dl.length ≤ _; omega))
  have HC := Lib.hid (fun W (h : Below w.heap.size w W) => call_any B (.slice p dl.length cap) (⟨dl, dq, da, false⟩ : DiskD) W (hL.below (h.mono hB)) (Nat.le_trans hB h.size) ha0 ha1)
  have HL := Lib.hid hL
  have HR := Lib.hid hR
  unfold diskV at HF HC HU
  dsimp only at HF HU
  obtain ⟨W0, hW0, hs0, hb0, hx0, hy0⟩ := start_box (w := w) (L := .slice p dl.length cap) (d := (⟨dl, dq, da, false⟩ : DiskD))
  have HB0 := Lib.hid hb0
  have HX0 := Lib.hid hx0
  have HY0 := Lib.hid hy0
  unfold diskV
  dsimp only at hW0 ⊢
  obtain ⟨S, hS⟩ : ∃ S : ByteArray, (⟨n.toArray⟩ : ByteArray) = S := ⟨_, rfl⟩
  rw [hS] at HN HF
  have HS := Lib.hid hS
  rw [hS]
  clear hvb hL hR hb0 hx0 hy0 hS
  go_enter Try.func35, Try.ntmps35
  go_wp2_with fail
  refine (HN.out W0).mono ?_
  rintro e w1 ⟨rfl, hb1⟩
  have HBW1 := Lib.hid (HB0.out.trans (hb1.mono (by omega)))
  have hs1 := hb1.size
  have hx1 := HX0.out.below hb1 (by omega)
  have hy1 := HY0.out.below hb1 (by omega)
  have c10 := hx1.files
  have c11 := hx1.quota
  have c12 := hx1.armed
  have c13 := hx1.stopped
  have y10 := hy1.files
  have y11 := hy1.quota
  have y12 := hy1.armed
  have y13 := hy1.stopped
  have fy1 := fun k => hy1.free k
  have HX1 := Lib.hid hx1
  have HY1 := Lib.hid hy1
  have HE1 := Lib.hid (end_box (B := B) (k := w.heap.size + 1) (w := w) (W := w1) (L := .slice p dl.length cap) (d := (⟨dl, dq, da, false⟩ : DiskD)) hy1 (HL.out.below (HBW1.out.mono hB)) hB (Nat.le_succ _) HBW1.out)
  clear hx1 hy1
  clear hW0 hb1
  have hr := HR.out
  cases hnm : namedL n with
  | false =>
    obtain rfl : R = (⟨dl, dq, da, false⟩, 60) := by rw [← hr]; simp [appendD, hnm]
    obtain ⟨q1, q2, q3⟩ := HE1.out
    unfold putBox at q1 q2 q3
    go_wp2_with fail
    refine bodyPost_ret (results_row_tmp rfl _ _ (w.heap.size + 1) 29 _ (0, 0) rfl q1 infoDisk) rfl ⟨_, rfl, q2, q3⟩
  | true =>
    have HNM := Lib.hid hnm
    obtain ⟨W2, hW2⟩ : ∃ W, w1.alloc (.cells #[.string S, .slice none 0 0, .int .i64 0] 48) = W := ⟨_, rfl⟩
    have hb2 : Below w1.heap.size w1 W2 := by rw [← hW2]; exact (Below.refl _ _).alloc (Nat.le_refl _) _
    have hf2 : FileAt W2 w1.heap.size (.slice none 0 0) ⟨n, [], 0⟩ := by
      rw [← hW2, ← HS.out]
      exact heap_alloc_new _ _
    have HBW2 := Lib.hid (HBW1.out.trans (hb2.mono HBW1.out.size))
    have HX2 := Lib.hid (HX1.out.below hb2 HX1.out.lt)
    have HY2 := Lib.hid (HY1.out.below hb2 HY1.out.lt)
    have HF2 := Lib.hid hf2
    have HK2 := Lib.hid (HF.out W2 HBW2.out)
    have hs2 := hb2.size
    have hxa : ∀ o, BoxAt (w1.alloc o) w.heap.size (.slice p dl.length cap) (⟨dl, dq, da, false⟩ : DiskD) := fun o => HX1.out.below ((Below.refl _ _).alloc (Nat.le_refl _) o) HX1.out.lt
    have g20 := fun o => (hxa o).files
    have g21 := fun o => (hxa o).quota
    have g22 := fun o => (hxa o).armed
    have g23 := fun o => (hxa o).stopped
    clear hxa
    have HW2 := Lib.hid hW2
    clear hr hb2 hf2 hW2
    go_wp2_with fail
    rw [HW2.out]
    refine HK2.out.mono ?_
    rintro e w3 ⟨k, rfl, hkf, hkl, hb3⟩
    have HBW3 := Lib.hid (HBW2.out.trans (hb3.mono HBW2.out.size))
    have hs3 := hb3.size
    have HX3 := Lib.hid (HX2.out.below hb3 HX2.out.lt)
    have HY3 := Lib.hid (HY2.out.below hb3 HY2.out.lt)
    have HF3 := Lib.hid (HF2.out.below hb3 HF2.out.lt)
    clear hb3 HK2 HW2 c10 c11 c12 c13 y10 y11 y12 y13 fy1 HE1 g20 g21 g22 g23
    have hr := HR.out
    have hcl := call_L (⟨dl, dq, da, false⟩ : DiskD)
    obtain ⟨⟨⟨cl, cq, ca, cs⟩, cb⟩, hcd⟩ : ∃ r, callD (⟨dl, dq, da, false⟩ : DiskD) = r := ⟨_, rfl⟩
    rw [hcd] at hcl
    rw [hcd] at HC
    dsimp only at hcl
    obtain ⟨rfl, rfl⟩ := hcl
    have hcont : ∀ f0 : FileD, f0.name = n → f0.b = ((findL cl n).map (·.b)).getD [] → f0.sure = ((findL cl n).map (·.sure)).getD 0 → ¬ (findL cl n = none ∧ 1024 ≤ cl.length) →
        R = if 67108864 < f0.b.length + b.length then ((⟨cl, cq, da, false⟩ : DiskD), (2 : Int)) else if 0 < cq ∧ b ≠ [] ∧ cq < (usedL cl : Int) + b.length then ((⟨cl, cq, da, false⟩ : DiskD), (62 : Int)) else if cb = true then ((⟨cl, cq, ca, cs⟩ : DiskD), (63 : Int)) else (⟨withL cl ⟨f0.name, f0.b ++ b, f0.sure⟩, cq, ca, cs⟩, 0) := fun f0 h1 h2 h3 h4 => by
      rw [← hr]
      unfold appendD
      rw [if_neg (by rw [HNM.out]; simp), if_neg (by simp), if_neg h4, hcd, h1, h2, h3]
    have HCONT := Lib.hid hcont
    have hmany : findL cl n = none ∧ 1024 ≤ cl.length → R = (⟨cl, cq, da, false⟩, 3) := fun h => by
      rw [← hr]
      unfold appendD
      rw [if_neg (by rw [HNM.out]; simp), if_neg (by simp), if_pos h]
    have HMANY := Lib.hid hmany
    have hc30 := HX3.out.files
    have hc31 := HX3.out.quota
    have hc32 := HX3.out.armed
    have hc33 := HX3.out.stopped
    have hy30 := HY3.out.files
    have hy31 := HY3.out.quota
    have hy32 := HY3.out.armed
    have hy33 := HY3.out.stopped
    have hfy3 := fun k => HY3.out.free k
    have hf30 := HF3.out.name
    have hf31 := HF3.out.bytes
    have hf32 := HF3.out.sure
    have hff3 := fun k => HF3.out.free k
    have HE3 := Lib.hid (end_box (B := B) (k := w.heap.size + 1) (w := w) (W := w3) (L := .slice p cl.length cap) (d := (⟨cl, cq, da, false⟩ : DiskD)) HY3.out (HL.out.below (HBW3.out.mono hB)) hB (Nat.le_succ _) HBW3.out)
    clear hr hcont hmany hcd
    by_cases h1024 : findL cl n = none ∧ 1024 ≤ cl.length
    · obtain rfl : R = (⟨cl, cq, da, false⟩, 3) := HMANY.out h1024
      have hff := h1024.1
      have t1 : decide ((cl.length : Int) ≥ 1024) = true := by rw [decide_eq_true_eq]; omega
      clear h1024
      obtain ⟨q1, q2, q3⟩ := HE3.out
      unfold putBox at q1 q2 q3
      go_wp2_with fail
      refine bodyPost_ret (results_row_tmp rfl _ _ (w.heap.size + 1) 29 _ (0, 0) rfl q1 infoDisk) rfl ⟨_, rfl, q2, q3⟩
    · have hc := fun f0 h1 h2 h3 => HCONT.out f0 h1 h2 h3 h1024
      have HC2 := Lib.hid hc

      cases hff : findL cl n
      case' none =>
        have t1 : decide ((cl.length : Int) ≥ 1024) = false := by rw [decide_eq_false_iff_not]; intro h; exact h1024 ⟨hff, by omega⟩
        rw [hff] at hc
        have hcR := hc ⟨n, [], 0⟩ rfl rfl rfl
        obtain ⟨f0, hf0⟩ : ∃ f0 : FileD, (⟨n, [], 0⟩ : FileD) = f0 := ⟨_, rfl⟩
        rw [hf0] at hcR HF3
        have hf0n : f0.name = n := by rw [← hf0]
        have hf0b : f0.b.length ≤ 1000000000 := by rw [← hf0]; simp
        have hb0 : BX XB B w3 (.slice none 0 0) f0.b := by rw [← hf0]; exact BX.nil_ _ _
        have hl0 : f0.b.length = 0 := by rw [← hf0]; rfl
        have HCR := Lib.hid hcR
        have HVB0 := Lib.hid hb0
        have HF0N := Lib.hid hf0n
        have HL0 := Lib.hid hl0
        clear hc h1024 hf0 hb0 hkf HC2 hcR hf0n
        obtain ⟨V, hV⟩ : ∃ V, V = w3 := ⟨_, rfl⟩
        subst hV
        have HBV := HBW3
        have HXV := HX3
        have HYV := HY3
        have HFV := HF3
        have HVS := Lib.hid (BX.shape HVB0.out)
        by_cases h67 : 67108864 < f0.b.length + b.length
        · obtain rfl : R = (⟨cl, cq, da, false⟩, 2) := by have := HCR.out; rw [if_pos h67] at this; exact this
          have t2 : decide ((b.length : Int) > 67108864) = true := by rw [decide_eq_true_eq]; omega
          clear h67 hl0
          obtain ⟨q1, q2, q3⟩ := HE3.out
          unfold putBox at q1 q2 q3
          go_wp2_with fail
          refine bodyPost_ret (results_row_tmp rfl _ _ (w.heap.size + 1) 29 _ (0, 0) rfl q1 infoDisk) rfl ⟨_, rfl, q2, q3⟩
        have t2 : decide ((b.length : Int) > 67108864) = false := by rw [decide_eq_false_iff_not]; omega
        have hcR := HCR.out
        rw [if_neg h67] at hcR
        have HCR2 := Lib.hid hcR
        have HLS := Lib.hid h67
        clear h67 hcR HCR hl0 hf0b
        go_wp2_with fail
        obtain ⟨p0, cap0, hv0, hcp1, hcp2⟩ := HVS.out
        rw [hv0] at HFV HVB0
        clear t1 hv0 hf30 hf31 hf32 hff3 hc30 hc31 hc32 hc33 hy30 hy31 hy32 hy33 hfy3 HE3
      case' some f0 =>
        obtain ⟨blk, off, vbf, hpq, hblk, hvbf, x0, x1, x2⟩ := (HL.out.below (HBW3.out.mono hB)).at_ (hkf f0 hff)
        subst hpq
        obtain ⟨p0, cap0, rfl, hcp1, hcp2⟩ := hvbf.shape
        unfold strV at x0
        obtain ⟨SN, hSN⟩ : ∃ S : ByteArray, (⟨f0.name.toArray⟩ : ByteArray) = S := ⟨_, rfl⟩
        rw [hSN] at x0
        have HSN := hSN
        have hkk := (List.getElem?_eq_some_iff.1 (hkf f0 hff)).1
        have i1 : (k : Int) < (cl.length : Int) := by omega
        rw [hff] at hc
        have hnf := (find_mem hff).2
        have hfb := hfl f0 (find_mem hff).1
        have hcR := hc f0 hnf rfl rfl
        have HCR := Lib.hid hcR
        have HVB0 := Lib.hid hvbf
        have HF0N := Lib.hid hnf
        have HFV := Lib.hid (file_three HF3.out (.slice p0 f0.b.length cap0) f0)
        rw [hSN] at HFV
        have hbv : Below w1.heap.size w3 (((w3.setCell ⟨w1.heap.size, 0, none⟩ (.string SN)).setCell ⟨w1.heap.size, 1, none⟩ (.slice p0 f0.b.length cap0)).setCell ⟨w1.heap.size, 2, none⟩ (.int .i64 (f0.sure : Int))) := (((Below.refl _ _).setCell (p := ⟨w1.heap.size, 0, none⟩) (Nat.le_refl _) _).setCell (p := ⟨w1.heap.size, 1, none⟩) (Nat.le_refl _) _).setCell (p := ⟨w1.heap.size, 2, none⟩) (Nat.le_refl _) _
        have HBV := Lib.hid (HBW3.out.trans (hbv.mono HBW1.out.size))
        have HXV := Lib.hid (HX3.out.below hbv HX1.out.lt)
        have HYV := Lib.hid (HY3.out.below hbv HY1.out.lt)
        have HVB0 := Lib.hid (HVB0.out.below (hbv.mono (Nat.le_trans hB HBW1.out.size)))
        have HEV := Lib.hid (end_box (B := B) (k := w.heap.size + 1) (w := w) (L := .slice (some ⟨blk, off, none⟩) cl.length cap) (d := (⟨cl, cq, da, false⟩ : DiskD)) HYV.out (HL.out.below (HBV.out.mono hB)) hB (Nat.le_succ _) HBV.out)
        have hv30 := HFV.out.name
        have hv31 := HFV.out.bytes
        have hv32 := HFV.out.sure
        have hfv3 := fun k => HFV.out.free k
        have hd30 := HXV.out.files
        have hd31 := HXV.out.quota
        have hd32 := HXV.out.armed
        have hd33 := HXV.out.stopped
        have hz30 := HYV.out.files
        have hz31 := HYV.out.quota
        have hz32 := HYV.out.armed
        have hz33 := HYV.out.stopped
        have hfz3 := fun k => HYV.out.free k
        clear hc h1024 hkf HC2 hcR hvbf hSN hbv hnf
        by_cases h67 : 67108864 < f0.b.length + b.length
        · obtain rfl : R = (⟨cl, cq, da, false⟩, 2) := by have := HCR.out; rw [if_pos h67] at this; exact this
          have t2 : decide ((b.length : Int) > 67108864 - (f0.b.length : Int)) = true := by rw [decide_eq_true_eq]; omega
          clear h67
          obtain ⟨q1, q2, q3⟩ := HEV.out
          unfold putBox at q1 q2 q3
          go_wp2_with fail
          refine bodyPost_ret (results_row_tmp rfl _ _ (w.heap.size + 1) 29 _ (0, 0) rfl q1 infoDisk) rfl ⟨_, rfl, q2, q3⟩
        have t2 : decide ((b.length : Int) > 67108864 - (f0.b.length : Int)) = false := by rw [decide_eq_false_iff_not]; omega
        have hcR := HCR.out
        rw [if_neg h67] at hcR
        have HCR2 := Lib.hid hcR
        have HLS := Lib.hid h67
        clear h67 hcR HCR
        go_wp2_with fail
        obtain ⟨V, hV⟩ : ∃ V, (((w3.setCell ⟨w1.heap.size, 0, none⟩ (.string SN)).setCell ⟨w1.heap.size, 1, none⟩ (.slice p0 f0.b.length cap0)).setCell ⟨w1.heap.size, 2, none⟩ (.int .i64 (f0.sure : Int))) = V := ⟨_, rfl⟩
        rw [hV] at HBV HXV HYV HFV HVB0 ⊢
        clear hV hv30 hv31 hv32 hfv3 hd30 hd31 hd32 hd33 hz30 hz31 hz32 hz33 hfz3 HEV hf30 hf31 hf32 hff3 hc30 hc31 hc32 hc33 hy30 hy31 hy32 hy33 hfy3 HE3 x0 x1 x2 i1 hkk HSN
      all_goals (
        clear t2
        refine RG.begin_ [(0, true), (1, true), (2, true), (3, true), (4, true), (5, true), (6, true), (7, true), (8, true), (9, true), (10, true), (11, true), (12, true), (13, true), (14, false), (15, true), (16, true), (17, true)] (by kernel_rfl) (by kernel_rfl) rfl (by kernel_rfl) (fun _ _ d _ _ h => by cases d <;> exact h) ?_
        simp only [RG.ordered, List.map_cons, List.map_nil, List.getElem?_toArray, List.getElem?_cons_succ, List.getElem?_cons_zero]
        obtain ⟨wd, hwd⟩ : ∃ wd, V.drew = wd := ⟨_, rfl⟩
        have hbd : Below V.heap.size V wd := by rw [← hwd]; exact (Below.refl _ _).drew
        have HBD := Lib.hid (HBV.out.trans (hbd.mono HBV.out.size))
        have HXD := Lib.hid (HXV.out.below hbd HXV.out.lt)
        have HYD := Lib.hid (HYV.out.below hbd HYV.out.lt)
        have HFD := Lib.hid (HFV.out.below hbd HFV.out.lt)
        have HVD := Lib.hid (HVB0.out.below (hbd.mono (Nat.le_trans hB HBV.out.size)))
        rw [hwd]
        have g1 := fun W (hW : RG.Grew wd W) => (HXD.out.below hW HXD.out.lt).files
        have g2 := fun W (hW : RG.Grew wd W) => (HXD.out.below hW HXD.out.lt).quota
        have g3 := fun W (hW : RG.Grew wd W) => (HXD.out.below hW HXD.out.lt).armed
        have g4 := fun W (hW : RG.Grew wd W) => (HXD.out.below hW HXD.out.lt).stopped
        clear hwd hbd
        have hcR := HCR2.out
        clear HCR2
        obtain hq | hq | hq : ¬ 0 < cq ∨ (0 < cq ∧ b.length = 0) ∨ (0 < cq ∧ 0 < b.length) := by omega
        case' inl =>
          have r1 : decide (cq > 0) = false := by rw [decide_eq_false_iff_not]; omega
          repeat ((first | (refine RG.take (by rfl) (by intro W hW; go_simp; with_reducible rfl) ?_) | (refine RG.skip (by rfl) ?_) | (refine RG.alone_skip (by rfl) ?_)); simp only [Act.put, List.setIfInBounds_toArray, List.set_cons_zero, List.set_cons_succ])
          refine RG.done ?_
          rw [if_neg (fun h => hq h.1)] at hcR
          have HR3 := Lib.hid hcR
          have HBQ := HBD
          have HXQ := HXD
          have HYQ := HYD
          have HFQ := HFD
          have HVQ := HVD
          obtain ⟨V2, hV2⟩ : ∃ V2, V2 = wd := ⟨_, rfl⟩
          subst hV2
          clear r1 g1 g2 g3 g4 hcR hq
        case' inr.inl =>
          have r1 : decide (cq > 0) = true := by rw [decide_eq_true_eq]; omega
          have r2 : decide ((b.length : Int) > 0) = false := by rw [decide_eq_false_iff_not]; omega
          repeat ((first | (refine RG.take (by rfl) (by intro W hW; go_simp; with_reducible rfl) ?_) | (refine RG.skip (by rfl) ?_) | (refine RG.alone_skip (by rfl) ?_)); simp only [Act.put, List.setIfInBounds_toArray, List.set_cons_zero, List.set_cons_succ])
          refine RG.done ?_
          rw [if_neg (fun h => h.2.1 (List.length_eq_zero_iff.1 hq.2))] at hcR
          have HR3 := Lib.hid hcR
          have HBQ := HBD
          have HXQ := HXD
          have HYQ := HYD
          have HFQ := HFD
          have HVQ := HVD
          obtain ⟨V2, hV2⟩ : ∃ V2, V2 = wd := ⟨_, rfl⟩
          subst hV2
          clear r1 r2 g1 g2 g3 g4 hcR hq
        case' inr.inr =>
          have r1 : decide (cq > 0) = true := by rw [decide_eq_true_eq]; omega
          have r2 : decide ((b.length : Int) > 0) = true := by rw [decide_eq_true_eq]; omega
          repeat ((first | (refine RG.take (by rfl) (by intro W hW; go_simp; with_reducible rfl) ?_) | (refine RG.skip (by rfl) ?_) | (refine RG.alone_skip (by rfl) ?_)); simp only [Act.put, List.setIfInBounds_toArray, List.set_cons_zero, List.set_cons_succ])
          refine RG.alone (by rfl) (fun K hK => ?_)
          go_simp
          refine (HU.out wd HBD.out).mono ?_
          rintro e V2 ⟨rfl, b6⟩
          go_simp
          refine hK.out _ _ b6 ?_
          clear hK K g1 g2 g3 g4
          have HBQ := Lib.hid (HBD.out.trans (b6.mono HBD.out.size))
          have HXQ := Lib.hid (HXD.out.below b6 HXD.out.lt)
          have HYQ := Lib.hid (HYD.out.below b6 HYD.out.lt)
          have HFQ := Lib.hid (HFD.out.below b6 HFD.out.lt)
          have HVQ := Lib.hid (HVD.out.below (b6.mono (Nat.le_trans hB HBD.out.size)))
          have hwr : IntKind.i64.wrap (cq - (usedL cl : Int)) = cq - (usedL cl : Int) := by rw [IntKind.wrap_i64]; omega
          clear b6
          by_cases hfull : cq < (usedL cl : Int) + b.length
          · rw [if_pos ⟨hq.1, fun h => (by have := hq.2; rw [h] at this; exact absurd this (by simp)), hfull⟩] at hcR
            subst hcR
            have r3 : decide ((b.length : Int) > cq - (usedL cl : Int)) = true := by rw [decide_eq_true_eq]; omega
            repeat ((first | (refine RG.take (by rfl) (by intro W hW; go_simp; with_reducible rfl) ?_) | (refine RG.skip (by rfl) ?_) | (refine RG.alone_skip (by rfl) ?_)); simp only [Act.put, List.setIfInBounds_toArray, List.set_cons_zero, List.set_cons_succ])
            refine RG.done ?_
            have HEQ := Lib.hid (end_box (B := B) (k := w.heap.size + 1) (w := w) (d := (⟨cl, cq, da, false⟩ : DiskD)) HYQ.out (HL.out.below (HBQ.out.mono hB)) hB (Nat.le_succ _) HBQ.out)
            have k0 := HXQ.out.files
            have k1 := HXQ.out.quota
            have k2 := HXQ.out.armed
            have k3 := HXQ.out.stopped
            have k4 := HYQ.out.files
            have k5 := HYQ.out.quota
            have k6 := HYQ.out.armed
            have k7 := HYQ.out.stopped
            have k8 := fun k => HYQ.out.free k
            obtain ⟨q1, q2, q3⟩ := HEQ.out
            unfold putBox at q1 q2 q3
            clear hwr r1 r2 r3 hfull hq
            go_wp2_with fail
            refine bodyPost_ret (results_row_tmp rfl _ _ (w.heap.size + 1) 29 _ (0, 0) rfl q1 infoDisk) rfl ⟨_, rfl, q2, q3⟩
          have r3 : decide ((b.length : Int) > cq - (usedL cl : Int)) = false := by rw [decide_eq_false_iff_not]; omega
          repeat ((first | (refine RG.take (by rfl) (by intro W hW; go_simp; with_reducible rfl) ?_) | (refine RG.skip (by rfl) ?_) | (refine RG.alone_skip (by rfl) ?_)); simp only [Act.put, List.setIfInBounds_toArray, List.set_cons_zero, List.set_cons_succ])
          refine RG.done ?_
          rw [if_neg (fun h => hfull h.2.2)] at hcR
          have HR3 := Lib.hid hcR
          clear hwr r1 r2 r3 hfull hq hcR
        all_goals (
          have HK3 := Lib.hid (HC.out V2 HBQ.out)
          unfold CallLeft diskV at HK3
          dsimp only at HK3
          have k0 := HXQ.out.files
          have k1 := HXQ.out.quota
          have k2 := HXQ.out.armed
          have k3 := HXQ.out.stopped
          go_wp2_with fail
          refine HK3.out.mono ?_
          rintro e w7 ⟨rfl, hb7⟩
          clear k0 k1 k2 k3 HK3
          have HB7 := Lib.hid (HBQ.out.trans (hb7.mono HBQ.out.size))
          have hs7 := hb7.size
          have HY7 := Lib.hid (HYQ.out.below hb7 HYQ.out.lt)
          have HF7 := Lib.hid (HFQ.out.below hb7 HFQ.out.lt)
          have HV7 := Lib.hid (HVQ.out.below (hb7.mono (Nat.le_trans hB HBQ.out.size)))
          clear hb7
          obtain ⟨LV, hLV, HLL⟩ : ∃ LV, LV = _ ∧ FilesIn XB B w LV cl := ⟨_, rfl, HL.out⟩
          obtain ⟨W8, hW8⟩ : ∃ W, w7.alloc (.cells #[LV, .int .i64 cq, .int .i64 ca, .bool cs] 29) = W := ⟨_, rfl⟩
          have hb8 : Below w7.heap.size w7 W8 := by rw [← hW8]; exact (Below.refl _ _).alloc (Nat.le_refl _) _
          have hn8 : BoxAt W8 w7.heap.size LV ⟨cl, cq, ca, cs⟩ := by rw [← hW8]; exact box_new w7 _ ⟨cl, cq, ca, cs⟩
          have HN8 := Lib.hid hn8
          subst hLV
          have n0 := HN8.out.files
          have n1 := HN8.out.quota
          have n2 := HN8.out.armed
          have n3 := HN8.out.stopped
          have HB8 := Lib.hid (HB7.out.trans (hb8.mono HB7.out.size))
          have hs8 := hb8.size
          have HY8 := Lib.hid (HY7.out.below hb8 HY7.out.lt)
          have HF8 := Lib.hid (HF7.out.below hb8 HF7.out.lt)
          have HV8 := Lib.hid (HV7.out.below (hb8.mono (Nat.le_trans hB HB7.out.size)))
          have HE8 := Lib.hid (end_box (B := B) (k := w.heap.size + 1) (w := w) (d := (⟨cl, cq, ca, cs⟩ : DiskD)) HY8.out (HL.out.below (HB8.out.mono hB)) hB (Nat.le_succ _) HB8.out)
          have y40 := HY8.out.files
          have y41 := HY8.out.quota
          have y42 := HY8.out.armed
          have y43 := HY8.out.stopped
          have fy4 := fun k => HY8.out.free k
          have f80 := HF8.out.name
          have f81 := HF8.out.bytes
          have f82 := HF8.out.sure
          have ff8 := fun k => HF8.out.free k
          clear hb8 hn8
          have hr := HR3.out
          cases cb with
          | true =>
            obtain rfl : R = (⟨cl, cq, ca, cs⟩, 63) := by rw [hr]; rfl
            clear hr
            obtain ⟨q1, q2, q3⟩ := HE8.out
            unfold putBox at q1 q2 q3
            go_wp2_with fail
            refine bodyPost_ret (results_row_tmp rfl _ _ (w.heap.size + 1) 29 _ (0, 0) rfl q1 infoDisk) rfl ⟨_, rfl, q2, q3⟩
          | false =>
            obtain rfl : R = (⟨withL cl ⟨f0.name, f0.b ++ b, f0.sure⟩, cq, ca, cs⟩, 0) := by rw [hr]; rfl
            clear hr y40 y41 y42 y43 fy4 HE8 f80 f81 f82 ff8
            have hbe : Below W8.heap.size W8 (W8.alloc (.cells #[] 5)) := (Below.refl _ _).alloc (Nat.le_refl _) _
            have f90 := (HF8.out.below hbe HF8.out.lt).bytes
            have HE := Lib.hid (own_empty W8 W8.heap.size (Nat.le_refl _))
            have hl0 : ([] : List UInt8).length + f0.b.length ≤ 140737488355328 := by have := HLS.out; rw [List.length_nil]; omega
            have hl1 : f0.b.length + b.length ≤ 140737488355328 := by have := HLS.out; omega
            have HV9 := Lib.hid ((HV8.out.below (hbe.mono (Nat.le_trans hB HB8.out.size))).row (Nat.le_trans (Nat.le_trans hB HB8.out.size) hbe.size))
            have hs9 := hbe.size
            have HBE := Lib.hid hbe
            clear hbe
            go_wp2_with (at_builtin; refine wpList_append_bytes rfl _ _ rfl W8.heap.size _ [] rfl HE.out _ f0.b rfl HV9.out hl0 hs9 ?_)
            intro v10 w10 hown10 hb10
            have HBT := Lib.hid (HBE.out.trans (hb10.mono (Nat.le_refl _)))
            have hs10 := hb10.size
            have HO10 := Lib.hid hown10
            have HVT := Lib.hid ((HVB.out.below (HB8.out.trans (HBT.out.mono HB8.out.size) |>.mono hB)).row (Nat.le_trans (Nat.le_trans hB HB8.out.size) HBT.out.size))
            have hs11 := HBT.out.size
            clear hown10 hb10
            go_wp2_with (at_builtin; refine wpList_append_bytes rfl _ _ rfl W8.heap.size _ f0.b rfl HO10.out _ b rfl HVT.out hl1 hs11 ?_)
            intro v11 w11 hown11 hb11
            obtain ⟨X, hX⟩ : ∃ X, f0.b ++ b = X := ⟨_, rfl⟩
            rw [hX] at hown11 ⊢
            have hxx : ∃ p c, v11 = .slice p X.length c := by obtain ⟨p, c, h, _⟩ := BIn.shape hown11.brow; exact ⟨p, c, h⟩
            obtain ⟨p11, cap11, rfl⟩ := hxx
            have HXX := Lib.hid hX
            clear hX
            have HBU := Lib.hid (HBT.out.trans hb11)
            have hy11 := HY8.out.below HBU.out HY8.out.lt
            have hf11 := HF8.out.below HBU.out HF8.out.lt
            have hn11 := HN8.out.below HBU.out HN8.out.lt
            have HBW11 := Lib.hid (HB8.out.trans (HBU.out.mono HB8.out.size))
            have ff := fun k => hf11.free k
            have e0 := hf11.name
            have e1 := hf11.bytes
            have e2 := hf11.sure
            have hg8 : w1.heap.size < W8.heap.size := HF8.out.lt
            have hk1 : w.heap.size + 1 ≠ w1.heap.size := Nat.ne_of_lt HY1.out.lt
            have hk7 : w7.heap.size ≠ w1.heap.size := Nat.ne_of_gt HF7.out.lt
            obtain ⟨LV, hLV, HLL⟩ : ∃ LV, LV = _ ∧ FilesIn XB B w LV cl := ⟨_, rfl, HL.out⟩
            have hn12 : BoxAt (w11.setCell ⟨w1.heap.size, 1, none⟩ (.slice p11 X.length cap11)) w7.heap.size _ (⟨cl, cq, ca, cs⟩ : DiskD) := (heap_setCell_other w11 ⟨w1.heap.size, 1, none⟩ w7.heap.size (.slice p11 X.length cap11) hk7).trans hn11
            have hy12 : BoxAt (w11.setCell ⟨w1.heap.size, 1, none⟩ (.slice p11 X.length cap11)) (w.heap.size + 1) (.slice none 0 0) (⟨[], 0, 0, false⟩ : DiskD) := (heap_setCell_other w11 ⟨w1.heap.size, 1, none⟩ (w.heap.size + 1) (.slice p11 X.length cap11) hk1).trans hy11
            have hf12 : FileAt (w11.setCell ⟨w1.heap.size, 1, none⟩ (.slice p11 X.length cap11)) w1.heap.size (.slice p11 X.length cap11) ⟨f0.name, X, f0.sure⟩ := heap_setCell_same w11 w1.heap.size 1 _ _ (.slice p11 X.length cap11) hf11
            have HB12 := Lib.hid (HBW11.out.setCell (p := ⟨w1.heap.size, 1, none⟩) HBW1.out.size (.slice p11 X.length cap11))
            have ho12 : OwnB W8.heap.size (w11.setCell ⟨w1.heap.size, 1, none⟩ (.slice p11 X.length cap11)) (.slice p11 X.length cap11) X := ownsRow_setCell_below hown11 (a := ⟨w1.heap.size, 1, none⟩) hg8 (.slice p11 X.length cap11)
            have HWT := Lib.hid (with_any (w11.setCell ⟨w1.heap.size, 1, none⟩ (.slice p11 X.length cap11)).heap.size (diskV _ ⟨cl, cq, ca, cs⟩) (.slice p11 X.length cap11) ⟨cl, cq, ca, cs⟩ ⟨f0.name, X, f0.sure⟩ (w11.setCell ⟨w1.heap.size, 1, none⟩ (.slice p11 X.length cap11)) ⟨_, rfl, (HL.out.below (HB12.out.mono hB)).mono (Nat.le_trans hB HB12.out.size)⟩ (BX.of_own ho12 (fun k hk => Nat.lt_of_lt_of_le (HXB.out k hk) HB8.out.size) (Nat.le_refl _)) (Nat.le_refl _) hl (by show f0.name.length ≤ _; rw [HF0N.out]; exact hn) hnl)
            unfold diskV fileV strV at HWT
            dsimp only at HWT
            have HN12 := Lib.hid hn12
            have HY12 := Lib.hid hy12
            have HF12 := Lib.hid hf12
            have z0 := HN12.out.files
            have z1 := HN12.out.quota
            have z2 := HN12.out.armed
            have z3 := HN12.out.stopped
            have z4 := HF12.out.name
            have z5 := HF12.out.bytes
            have z6 := HF12.out.sure
            dsimp only at z4 z6
            obtain ⟨SF, hSF⟩ : ∃ S : ByteArray, (⟨f0.name.toArray⟩ : ByteArray) = S := ⟨_, rfl⟩
            rw [hSF] at HWT z4
            clear hb11 hSF ho12 hn12 hy12 hf12 hf11 hn11 hy11 hown11 hLV HLL f90 n0 n1 n2 n3
            go_wp2_with fail
            refine HWT.out.mono ?_
            rintro e w13 ⟨L5, rfl, ho5, hb13⟩
            dsimp only at ho5
            have HY13 := Lib.hid (HY12.out.below hb13 HY12.out.lt)
            have HE13 := Lib.hid (end_other (k := w.heap.size + 1) (w := w) (W := w13) (d := (⟨withL cl ⟨f0.name, X, f0.sure⟩, cq, ca, cs⟩ : DiskD)) HY13.out ho5 hb13.size (Nat.le_succ _) HY12.out.lt (HB12.out.trans (hb13.mono HB12.out.size)) HXB.out)
            have x0 := HY13.out.files
            have x1 := HY13.out.quota
            have x2 := HY13.out.armed
            have x3 := HY13.out.stopped
            have fx := fun k => HY13.out.free k
            obtain ⟨p5, cap5, rfl⟩ := ho5.shape
            unfold diskV
            dsimp only
            clear ho5 hb13 e0 e1 e2 z0 z1 z2 z3 z4 z5 z6 ff
            obtain ⟨q1, q2, q3⟩ := HE13.out
            unfold putBox at q1 q2 q3
            go_wp2_with fail
            have hX := HXX.out
            subst hX
            refine bodyPost_ret (results_row_tmp rfl _ _ (w.heap.size + 1) 29 _ (0, 0) rfl q1 infoDisk) rfl ⟨_, rfl, q2, q3⟩))
end Go.Proofs.Ytljfpolcgegkpaa.DK
