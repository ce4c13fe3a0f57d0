/-
  The reference's Rename: what the plain lists say. Condition: few files.
-/
import Derived.Test.YtljfpolcgegkpaaDskRef6
import Derived.Test.YtljfpolcgegkpaaRegK
import Derived.Deep.MidRow
set_option linter.unusedVariables false
namespace Go.Proofs.Ytljfpolcgegkpaa.DK
open Go.RowKit Go.Proofs.Ytljfpolcgegkpaa.MM
variable {XB : Nat → Prop}

set_option maxRecDepth 100000 in
set_option maxHeartbeats 4000000 in
theorem rrename_stopped (B : Nat) (L : Value) (dl : List FileD) (dq da : Int) (n t : List UInt8) (w : World) (hL : FilesIn XB B w L dl) (hB : B ≤ w.heap.size) (hl : dl.length ≤ 1000000) (hn : n.length ≤ 1000000000) (ht : t.length ≤ 1000000000) (hnl : ∀ g ∈ dl, g.name.length ≤ 1000000000) (ha0 : 0 ≤ da) (ha1 : da ≤ 9223372036854775807) (hXB : ∀ k, XB k → k < w.heap.size) :
    Calls Try.prog 30 #[diskV L (⟨dl, dq, da, true⟩ : DiskD), .string ⟨n.toArray⟩, .string ⟨t.toArray⟩] w (TwoDisk XB (renameD (⟨dl, dq, da, true⟩ : DiskD) n t) w) := by
  have HXB := Lib.hid hXB
  clear hXB
  obtain ⟨p, cap, rfl, hlc, hcm⟩ := hL.shape
  obtain ⟨R, hR⟩ : ∃ R, renameD (⟨dl, dq, da, true⟩ : DiskD) n t = R := ⟨_, rfl⟩
  rw [hR]
  have HN := Lib.hid (fun W => named_any ⟨n.toArray⟩ n W rfl (by omega))
  have HNT := Lib.hid (fun W => named_any ⟨t.toArray⟩ t W rfl (by omega))
  have HF := Lib.hid (fun W (h : Below w.heap.size w W) => find_any B (diskV (.slice p dl.length cap) (⟨dl, dq, da, true⟩ : DiskD)) (⟨dl, dq, da, true⟩ : DiskD) n W ⟨_, rfl, hL.below (h.mono hB)⟩ (Nat.le_trans hB h.size) (by show dl.length ≤ _; omega))
  have HC := Lib.hid (fun W (h : Below w.heap.size w W) => call_any B (.slice p dl.length cap) (⟨dl, dq, da, true⟩ : DiskD) W (hL.below (h.mono hB)) (Nat.le_trans hB h.size) ha0 ha1)
  have HL := Lib.hid hL
  have HR := Lib.hid hR
  unfold diskV at HF HC
  dsimp only at HF
  obtain ⟨W0, hW0, hs0, hb0, hx0, hy0⟩ := start_box (w := w) (L := .slice p dl.length cap) (d := (⟨dl, dq, da, true⟩ : DiskD))
  have HB0 := Lib.hid hb0
  have HX0 := Lib.hid hx0
  have HY0 := Lib.hid hy0
  unfold diskV
  dsimp only at hW0 ⊢
  obtain ⟨S, hS⟩ : ∃ S : ByteArray, (⟨n.toArray⟩ : ByteArray) = S := ⟨_, rfl⟩
  obtain ⟨T, hT⟩ : ∃ S : ByteArray, (⟨t.toArray⟩ : ByteArray) = S := ⟨_, rfl⟩
  rw [hS] at HN HF
  rw [hT] at HNT
  have HS := Lib.hid hS
  have HT := Lib.hid hT
  rw [hS, hT]
  clear hL hR hb0 hx0 hy0 hS hT
  go_enter Try.func30, Try.ntmps30
  go_wp2_with fail
  refine (HN.out W0).mono ?_
  rintro e w1 ⟨rfl, hb1⟩
  have HBW1 := Lib.hid (HB0.out.trans (hb1.mono (by omega)))
  have hs1 := hb1.size
  have hx1 := HX0.out.below hb1 (by omega)
  have hy1 := HY0.out.below hb1 (by omega)
  have c10 := hx1.files
  have c11 := hx1.quota
  have c12 := hx1.armed
  have c13 := hx1.stopped
  have y10 := hy1.files
  have y11 := hy1.quota
  have y12 := hy1.armed
  have y13 := hy1.stopped
  have fy1 := fun k => hy1.free k
  have HX1 := Lib.hid hx1
  have HY1 := Lib.hid hy1
  have HE1 := Lib.hid (end_box (B := B) (k := w.heap.size + 1) (w := w) (W := w1) (L := .slice p dl.length cap) (d := (⟨dl, dq, da, true⟩ : DiskD)) hy1 (HL.out.below (HBW1.out.mono hB)) hB (Nat.le_succ _) HBW1.out)
  clear hx1 hy1
  clear hW0 hb1
  have hr := HR.out
  cases hnm : namedL n with
  | false =>
    obtain rfl : R = (⟨dl, dq, da, true⟩, 60) := by rw [← hr]; simp [renameD, onD, hnm]
    obtain ⟨q1, q2, q3⟩ := HE1.out
    unfold putBox at q1 q2 q3
    go_wp2_with fail
    refine bodyPost_ret (results_row_tmp rfl _ _ (w.heap.size + 1) 29 _ (0, 0) rfl q1 infoDisk) rfl ⟨_, rfl, q2, q3⟩
  | true =>
    go_wp2_with fail
    refine (HNT.out w1).mono ?_
    rintro e w6 ⟨rfl, hb6⟩
    have HBW6 := Lib.hid (HBW1.out.trans (hb6.mono HBW1.out.size))
    have hs6 := hb6.size
    have hx6 := HX1.out.below hb6 HX1.out.lt
    have hy6 := HY1.out.below hb6 HY1.out.lt
    have c60 := hx6.files
    have c61 := hx6.quota
    have c62 := hx6.armed
    have c63 := hx6.stopped
    have y60 := hy6.files
    have y61 := hy6.quota
    have y62 := hy6.armed
    have y63 := hy6.stopped
    have fy6 := fun k => hy6.free k
    have HX6 := Lib.hid hx6
    have HY6 := Lib.hid hy6
    have HE6 := Lib.hid (end_box (B := B) (k := w.heap.size + 1) (w := w) (W := w6) (L := .slice p dl.length cap) (d := (⟨dl, dq, da, true⟩ : DiskD)) hy6 (HL.out.below (HBW6.out.mono hB)) hB (Nat.le_succ _) HBW6.out)
    clear hx6 hy6
    clear hb6 c10 c11 c12 c13 y10 y11 y12 y13 fy1 HE1
    have hr := HR.out
    cases hnt : namedL t with
    | false =>
      obtain rfl : R = (⟨dl, dq, da, true⟩, 60) := by rw [← hr]; simp [renameD, onD, hnm, hnt]
      obtain ⟨q1, q2, q3⟩ := HE6.out
      unfold putBox at q1 q2 q3
      go_wp2_with fail
      refine bodyPost_ret (results_row_tmp rfl _ _ (w.heap.size + 1) 29 _ (0, 0) rfl q1 infoDisk) rfl ⟨_, rfl, q2, q3⟩
    | true =>
      obtain rfl : R = (⟨dl, dq, da, true⟩, 63) := by rw [← hr]; simp [renameD, onD, hnm, hnt]
      obtain ⟨q1, q2, q3⟩ := HE6.out
      unfold putBox at q1 q2 q3
      go_wp2_with fail
      refine bodyPost_ret (results_row_tmp rfl _ _ (w.heap.size + 1) 29 _ (0, 0) rfl q1 infoDisk) rfl ⟨_, rfl, q2, q3⟩
set_option maxRecDepth 100000 in
set_option maxHeartbeats 4000000 in
theorem rrename_on (B : Nat) (L : Value) (dl : List FileD) (dq da : Int) (n t : List UInt8) (w : World) (hL : FilesIn XB B w L dl) (hB : B ≤ w.heap.size) (hl : dl.length ≤ 1000000) (hn : n.length ≤ 1000000000) (ht : t.length ≤ 1000000000) (hnl : ∀ g ∈ dl, g.name.length ≤ 1000000000) (ha0 : 0 ≤ da) (ha1 : da ≤ 9223372036854775807) (hXB : ∀ k, XB k → k < w.heap.size) :
    Calls Try.prog 30 #[diskV L (⟨dl, dq, da, false⟩ : DiskD), .string ⟨n.toArray⟩, .string ⟨t.toArray⟩] w (TwoDisk XB (renameD (⟨dl, dq, da, false⟩ : DiskD) n t) w) := by
  have HXB := Lib.hid hXB
  clear hXB
  obtain ⟨p, cap, rfl, hlc, hcm⟩ := hL.shape
  obtain ⟨R, hR⟩ : ∃ R, renameD (⟨dl, dq, da, false⟩ : DiskD) n t = R := ⟨_, rfl⟩
  rw [hR]
  have HN := Lib.hid (fun W => named_any ⟨n.toArray⟩ n W rfl (by omega))
  have HNT := Lib.hid (fun W => named_any ⟨t.toArray⟩ t W rfl (by omega))
  have HF := Lib.hid (fun W (h : Below w.heap.size w W) => find_any B (diskV (.slice p dl.length cap) (⟨dl, dq, da, false⟩ : DiskD)) (⟨dl, dq, da, false⟩ : DiskD) n W ⟨_, rfl, hL.below (h.mono hB)⟩ (Nat.le_trans hB h.size) (by show dl.length ≤ _; omega))
  have HC := Lib.hid (fun W (h : Below w.heap.size w W) => call_any B (.slice p dl.length cap) (⟨dl, dq, da, false⟩ : DiskD) W (hL.below (h.mono hB)) (Nat.le_trans hB h.size) ha0 ha1)
  have HL := Lib.hid hL
  have HR := Lib.hid hR
  unfold diskV at HF HC
  dsimp only at HF
  obtain ⟨W0, hW0, hs0, hb0, hx0, hy0⟩ := start_box (w := w) (L := .slice p dl.length cap) (d := (⟨dl, dq, da, false⟩ : DiskD))
  have HB0 := Lib.hid hb0
  have HX0 := Lib.hid hx0
  have HY0 := Lib.hid hy0
  unfold diskV
  dsimp only at hW0 ⊢
  obtain ⟨S, hS⟩ : ∃ S : ByteArray, (⟨n.toArray⟩ : ByteArray) = S := ⟨_, rfl⟩
  obtain ⟨T, hT⟩ : ∃ S : ByteArray, (⟨t.toArray⟩ : ByteArray) = S := ⟨_, rfl⟩
  rw [hS] at HN HF
  rw [hT] at HNT
  have HS := Lib.hid hS
  have HT := Lib.hid hT
  rw [hS, hT]
  clear hL hR hb0 hx0 hy0 hS hT
  go_enter Try.func30, Try.ntmps30
  go_wp2_with fail
  refine (HN.out W0).mono ?_
  rintro e w1 ⟨rfl, hb1⟩
  have HBW1 := Lib.hid (HB0.out.trans (hb1.mono (by omega)))
  have hs1 := hb1.size
  have hx1 := HX0.out.below hb1 (by omega)
  have hy1 := HY0.out.below hb1 (by omega)
  have c10 := hx1.files
  have c11 := hx1.quota
  have c12 := hx1.armed
  have c13 := hx1.stopped
  have y10 := hy1.files
  have y11 := hy1.quota
  have y12 := hy1.armed
  have y13 := hy1.stopped
  have fy1 := fun k => hy1.free k
  have HX1 := Lib.hid hx1
  have HY1 := Lib.hid hy1
  have HE1 := Lib.hid (end_box (B := B) (k := w.heap.size + 1) (w := w) (W := w1) (L := .slice p dl.length cap) (d := (⟨dl, dq, da, false⟩ : DiskD)) hy1 (HL.out.below (HBW1.out.mono hB)) hB (Nat.le_succ _) HBW1.out)
  clear hx1 hy1
  clear hW0 hb1
  have hr := HR.out
  cases hnm : namedL n with
  | false =>
    obtain rfl : R = (⟨dl, dq, da, false⟩, 60) := by rw [← hr]; simp [renameD, onD, hnm]
    obtain ⟨q1, q2, q3⟩ := HE1.out
    unfold putBox at q1 q2 q3
    go_wp2_with fail
    refine bodyPost_ret (results_row_tmp rfl _ _ (w.heap.size + 1) 29 _ (0, 0) rfl q1 infoDisk) rfl ⟨_, rfl, q2, q3⟩
  | true =>
    go_wp2_with fail
    refine (HNT.out w1).mono ?_
    rintro e w6 ⟨rfl, hb6⟩
    have HBW6 := Lib.hid (HBW1.out.trans (hb6.mono HBW1.out.size))
    have hs6 := hb6.size
    have hx6 := HX1.out.below hb6 HX1.out.lt
    have hy6 := HY1.out.below hb6 HY1.out.lt
    have c60 := hx6.files
    have c61 := hx6.quota
    have c62 := hx6.armed
    have c63 := hx6.stopped
    have y60 := hy6.files
    have y61 := hy6.quota
    have y62 := hy6.armed
    have y63 := hy6.stopped
    have fy6 := fun k => hy6.free k
    have HX6 := Lib.hid hx6
    have HY6 := Lib.hid hy6
    have HE6 := Lib.hid (end_box (B := B) (k := w.heap.size + 1) (w := w) (W := w6) (L := .slice p dl.length cap) (d := (⟨dl, dq, da, false⟩ : DiskD)) hy6 (HL.out.below (HBW6.out.mono hB)) hB (Nat.le_succ _) HBW6.out)
    clear hx6 hy6
    clear hb6 c10 c11 c12 c13 y10 y11 y12 y13 fy1 HE1
    have hr := HR.out
    cases hnt : namedL t with
    | false =>
      obtain rfl : R = (⟨dl, dq, da, false⟩, 60) := by rw [← hr]; simp [renameD, onD, hnm, hnt]
      obtain ⟨q1, q2, q3⟩ := HE6.out
      unfold putBox at q1 q2 q3
      go_wp2_with fail
      refine bodyPost_ret (results_row_tmp rfl _ _ (w.heap.size + 1) 29 _ (0, 0) rfl q1 infoDisk) rfl ⟨_, rfl, q2, q3⟩
    | true =>
      have HNM := Lib.hid hnm
      have HNU := Lib.hid hnt
      have HK2 := Lib.hid (HF.out w6 HBW6.out)
      clear hr
      go_wp2_with fail
      refine HK2.out.mono ?_
      rintro e w2 ⟨k, rfl, hkf, hkl, hb2⟩
      have HBW2 := Lib.hid (HBW6.out.trans (hb2.mono HBW6.out.size))
      have hs2 := hb2.size
      have hx2 := HX6.out.below hb2 HX6.out.lt
      have hy2 := HY6.out.below hb2 HY6.out.lt
      have c20 := hx2.files
      have c21 := hx2.quota
      have c22 := hx2.armed
      have c23 := hx2.stopped
      have y20 := hy2.files
      have y21 := hy2.quota
      have y22 := hy2.armed
      have y23 := hy2.stopped
      have fy2 := fun k => hy2.free k
      have HX2 := Lib.hid hx2
      have HY2 := Lib.hid hy2
      have HE2 := Lib.hid (end_box (B := B) (k := w.heap.size + 1) (w := w) (W := w2) (L := (.slice p dl.length cap)) (d := (⟨dl, dq, da, false⟩ : DiskD)) hy2 (HL.out.below (HBW2.out.mono hB)) hB (Nat.le_succ _) HBW2.out)
      clear hx2 hy2
      clear hb2 HK2 c60 c61 c62 c63 y60 y61 y62 y63 fy6 HE6
      have hr := HR.out
      cases hff : findL dl n with
      | none =>
        obtain rfl : R = (⟨dl, dq, da, false⟩, 61) := by rw [← hr]; simp [renameD, onD, hnm, hnt, hff]
        obtain ⟨q1, q2, q3⟩ := HE2.out
        unfold putBox at q1 q2 q3
        go_wp2_with fail
        refine bodyPost_ret (results_row_tmp rfl _ _ (w.heap.size + 1) 29 _ (0, 0) rfl q1 infoDisk) rfl ⟨_, rfl, q2, q3⟩
      | some f =>
        have HK3 := Lib.hid (HC.out w2 HBW2.out)
        have hcl := call_L (⟨dl, dq, da, false⟩ : DiskD)
        obtain ⟨⟨⟨cl, cq, ca, cs⟩, cb⟩, hcd⟩ : ∃ r, callD (⟨dl, dq, da, false⟩ : DiskD) = r := ⟨_, rfl⟩
        rw [hcd] at HK3 hcl
        dsimp only at hcl
        obtain ⟨rfl, rfl⟩ := hcl
        have hr2 : (if cb = true then ((⟨cl, cq, ca, cs⟩ : DiskD), (63 : Int)) else (⟨withL (withoutL cl n) ⟨t, f.b, f.sure⟩, cq, ca, cs⟩, 0)) = R := by rw [← hr]; simp only [renameD, onD, hnm, hnt, hff, hcd]; simp
        have HR2 := Lib.hid hr2
        have HFF := Lib.hid hff
        have hfk := hkf f hff
        clear hr hr2 hcd hkf
        unfold CallLeft diskV at HK3
        dsimp only at HK3
        go_wp2_with fail
        refine HK3.out.mono ?_
        rintro e w3 ⟨rfl, hb3⟩
        have HBW3 := Lib.hid (HBW2.out.trans (hb3.mono HBW2.out.size))
        have hs3 := hb3.size
        have hx3 := HX2.out.below hb3 HX2.out.lt
        have hy3 := HY2.out.below hb3 HY2.out.lt
        have c30 := hx3.files
        have c31 := hx3.quota
        have c32 := hx3.armed
        have c33 := hx3.stopped
        have y30 := hy3.files
        have y31 := hy3.quota
        have y32 := hy3.armed
        have y33 := hy3.stopped
        have fy3 := fun k => hy3.free k
        have HX3 := Lib.hid hx3
        have HY3 := Lib.hid hy3
        have HE3 := Lib.hid (end_box (B := B) (k := w.heap.size + 1) (w := w) (W := w3) (L := (.slice p cl.length cap)) (d := (⟨cl, cq, ca, cs⟩ : DiskD)) hy3 (HL.out.below (HBW3.out.mono hB)) hB (Nat.le_succ _) HBW3.out)
        clear hx3 hy3
        clear hb3 HK3 c20 c21 c22 c23 y20 y21 y22 y23 fy2 HE2
        obtain ⟨W4, hW4⟩ : ∃ W, w3.alloc (.cells #[.slice p cl.length cap, .int .i64 cq, .int .i64 ca, .bool cs] 29) = W := ⟨_, rfl⟩
        have hb4 : Below w3.heap.size w3 W4 := by rw [← hW4]; exact (Below.refl _ _).alloc (Nat.le_refl _) _
        have hn4 : BoxAt W4 w3.heap.size (.slice p cl.length cap) ⟨cl, cq, ca, cs⟩ := by rw [← hW4]; exact box_new w3 _ ⟨cl, cq, ca, cs⟩
        have n0 := hn4.files
        have n1 := hn4.quota
        have n2 := hn4.armed
        have n3 := hn4.stopped
        have HBW4 := Lib.hid (HBW3.out.trans (hb4.mono HBW3.out.size))
        have hs4 := hb4.size
        have hx4 := HX3.out.below hb4 HX3.out.lt
        have hy4 := HY3.out.below hb4 HY3.out.lt
        have c40 := hx4.files
        have c41 := hx4.quota
        have c42 := hx4.armed
        have c43 := hx4.stopped
        have y40 := hy4.files
        have y41 := hy4.quota
        have y42 := hy4.armed
        have y43 := hy4.stopped
        have fy4 := fun k => hy4.free k
        have HX4 := Lib.hid hx4
        have HY4 := Lib.hid hy4
        have HE4 := Lib.hid (end_box (B := B) (k := w.heap.size + 1) (w := w) (W := W4) (L := (.slice p cl.length cap)) (d := (⟨cl, cq, ca, cs⟩ : DiskD)) hy4 (HL.out.below (HBW4.out.mono hB)) hB (Nat.le_succ _) HBW4.out)
        clear hx4 hy4
        obtain ⟨blk, off, vb, rfl, hblk, hvb, x0, x1, x2⟩ := (HL.out.below (HBW4.out.mono hB)).at_ hfk
        obtain ⟨pb, capb, rfl, _, _⟩ := hvb.shape
        unfold strV at x0
        obtain ⟨SN, hSN⟩ : ∃ S : ByteArray, (⟨f.name.toArray⟩ : ByteArray) = S := ⟨_, rfl⟩
        rw [hSN] at x0
        have hkk := (List.getElem?_eq_some_iff.1 hfk).1
        have i1 : (k : Int) < (cl.length : Int) := by omega
        obtain ⟨W5, hW5⟩ : ∃ W, W4.alloc (.cells #[.string T, .slice pb f.b.length capb, .int .i64 (f.sure : Int)] 48) = W := ⟨_, rfl⟩
        have hb5 : Below W4.heap.size W4 W5 := by rw [← hW5]; exact (Below.refl _ _).alloc (Nat.le_refl _) _
        have HBW5 := Lib.hid (HBW4.out.trans (hb5.mono HBW4.out.size))
        have hs5 := hb5.size
        have HY5 := Lib.hid (HY4.out.below hb5 HY4.out.lt)
        have HN5 := Lib.hid (hn4.below hb5 hn4.lt)
        have hf5 : W5.heap[W4.heap.size]? = some (.cells #[.string T, .slice pb f.b.length capb, .int .i64 (f.sure : Int)] 48 (0, 0)) := by rw [← hW5]; exact heap_alloc_new _ _
        have HF5 := Lib.hid hf5
        have HVB := Lib.hid (hvb.below (hb5.mono (Nat.le_trans hB HBW4.out.size)))
        have hl3 : w.heap.size + 1 < w3.heap.size := HY3.out.lt
        have hl5 : w3.heap.size < W4.heap.size := hn4.lt
        have HW5 := Lib.hid hW5
        clear hb4 hb5 hn4 hf5 hvb hSN hfk hkk hW5 c30 c31 c32 c33 y30 y31 y32 y33 fy3 HE3
        have hr := HR2.out
        cases cb with
        | true =>
          obtain rfl : R = (⟨cl, cq, ca, cs⟩, 63) := hr.symm
          obtain ⟨q1, q2, q3⟩ := HE4.out
          unfold putBox at q1 q2 q3
          go_wp2_with fail
          refine bodyPost_ret (results_row_tmp rfl _ _ (w.heap.size + 1) 29 _ (0, 0) rfl q1 infoDisk) rfl ⟨_, rfl, q2, q3⟩
        | false =>
          obtain rfl : R = (⟨withL (withoutL cl n) ⟨t, f.b, f.sure⟩, cq, ca, cs⟩, 0) := hr.symm
          clear hr
          go_wp2_with fail
          obtain ⟨wd, hwd⟩ : ∃ wd, W5.drew = wd := ⟨_, rfl⟩
          have hbd : Below W5.heap.size W5 wd := by rw [← hwd]; exact (Below.refl _ _).drew
          have hsd : wd.heap.size = W5.heap.size := by rw [← hwd]; rfl
          refine RK.begin_ (T := fun b => b ≠ w.heap.size + 1) [(0, true), (1, true), (3, true), (2, false), (4, false), (5, false), (6, true)] (by kernel_rfl) (by kernel_rfl) rfl (by kernel_rfl) (fun _ _ d _ _ h => by cases d <;> exact h) ?_
          simp only [RK.ordered, List.map_cons, List.map_nil, List.getElem?_toArray, List.getElem?_cons_succ, List.getElem?_cons_zero]
          rw [HW5.out, hwd]
          have hnd := HN5.out.below hbd HN5.out.lt
          have hfd := (hbd.block W4.heap.size (Array.getElem?_eq_some_iff.1 HF5.out).1).trans HF5.out
          have hyd := HY5.out.below hbd HY5.out.lt
          have HND := Lib.hid hnd
          have HFD := Lib.hid hfd
          have HYD := Lib.hid hyd
          have hlf : W4.heap.size < wd.heap.size := (Array.getElem?_eq_some_iff.1 hfd).1
          have e0 := fun W (hW : Kep (fun b => b ≠ w.heap.size + 1) wd W) => (show W.cell? ⟨w3.heap.size, 0, none⟩ = _ from (hW.cell HND.out.lt (by omega) 0).trans HND.out.files)
          have e1 := fun W (hW : Kep (fun b => b ≠ w.heap.size + 1) wd W) => (show W.cell? ⟨w3.heap.size, 1, none⟩ = _ from (hW.cell HND.out.lt (by omega) 1).trans HND.out.quota)
          have e2 := fun W (hW : Kep (fun b => b ≠ w.heap.size + 1) wd W) => (show W.cell? ⟨w3.heap.size, 2, none⟩ = _ from (hW.cell HND.out.lt (by omega) 2).trans HND.out.armed)
          have e3 := fun W (hW : Kep (fun b => b ≠ w.heap.size + 1) wd W) => (show W.cell? ⟨w3.heap.size, 3, none⟩ = _ from (hW.cell HND.out.lt (by omega) 3).trans HND.out.stopped)
          have f0 := fun W (hW : Kep (fun b => b ≠ w.heap.size + 1) wd W) => (show W.cell? ⟨W4.heap.size, 0, none⟩ = some (.string T) by rw [hW.cell hlf (by omega), cell_of_row _ _ 0 _ _ _ HFD.out]; rfl)
          have f1 := fun W (hW : Kep (fun b => b ≠ w.heap.size + 1) wd W) => (show W.cell? ⟨W4.heap.size, 1, none⟩ = some (.slice pb f.b.length capb) by rw [hW.cell hlf (by omega), cell_of_row _ _ 1 _ _ _ HFD.out]; rfl)
          have f2 := fun W (hW : Kep (fun b => b ≠ w.heap.size + 1) wd W) => (show W.cell? ⟨W4.heap.size, 2, none⟩ = some (.int .i64 (f.sure : Int)) by rw [hW.cell hlf (by omega), cell_of_row _ _ 2 _ _ _ HFD.out]; rfl)
          repeat (refine RK.take (by rfl) (by intro W hW; go_simp; with_reducible rfl) ?_; simp only [Act.put, List.setIfInBounds_toArray, List.set_cons_zero, List.set_cons_succ])
          clear e0 e1 e2 e3 f0 f1 f2
          have hbw5 := HBW5.out.size
          have hbwd : Below w.heap.size w wd := HBW5.out.trans (hbd.mono hbw5)
          have hvbd := HVB.out.below (hbd.mono (Nat.le_trans hB hbw5))
          have hwo := without_any B (diskV (.slice (some ⟨blk, off, none⟩) cl.length cap) ⟨cl, cq, ca, cs⟩) ⟨cl, cq, ca, cs⟩ n wd ⟨_, rfl, HL.out.below (hbwd.mono hB)⟩ (Nat.le_trans hB hbwd.size) hl
          rw [HS.out] at hwo
          refine RK.alone (by rfl) (fun K hK => ?_)
          go_simp
          refine hwo.mono ?_
          rintro e w7 ⟨L7, rfl, ho7, hb7⟩
          go_simp
          refine hK.out _ _ (kep_below _ hb7) ?_
          clear hK K
          dsimp only at ho7
          have hbw7 : Below w.heap.size w w7 := hbwd.trans (hb7.mono hbwd.size)
          have hX7 : ∀ k, XB k → k < w7.heap.size := fun k hk => Nat.lt_of_lt_of_le (HXB.out k hk) hbw7.size
          have hf7 := ho7.files (Nat.le_trans hB hbw7.size) (fun k hk => Nat.lt_of_lt_of_le (HXB.out k hk) hbwd.size)
          have hwi := with_any w7.heap.size (diskV L7 ⟨withoutL cl n, cq, ca, cs⟩) (.slice pb f.b.length capb) ⟨withoutL cl n, cq, ca, cs⟩ ⟨t, f.b, f.sure⟩ w7 ⟨_, rfl, hf7⟩ ((hvbd.below (hb7.mono (Nat.le_trans hB hbwd.size))).mono (Nat.le_trans hB hbw7.size)) (Nat.le_refl _) (by show (withoutL cl n).length ≤ _; exact Nat.le_trans (List.length_filter_le _ _) hl) ht (fun g hg => hnl g (List.mem_filter.1 hg).1)
          unfold fileV strV at hwi
          dsimp only at hwi
          rw [HT.out] at hwi
          refine RK.alone (by rfl) (fun K hK => ?_)
          go_simp
          refine hwi.mono ?_
          rintro e w8 ⟨L8, rfl, ho8, hb8⟩
          go_simp
          refine hK.out _ _ (kep_below _ hb8) ?_
          clear hK K
          dsimp only at ho8
          have hy8 := (hyd.below hb7 hyd.lt).below hb8 (hyd.below hb7 hyd.lt).lt
          have hE := end_other (k := w.heap.size + 1) (w := w) (W := w8) (d := (⟨withL (withoutL cl n) ⟨t, f.b, f.sure⟩, cq, ca, cs⟩ : DiskD)) hy8 ho8 hb8.size (Nat.le_succ _) (hyd.below hb7 hyd.lt).lt (hbw7.trans (hb8.mono hbw7.size)) HXB.out
          refine RK.alone (by rfl) (fun K hK => ?_)
          refine wp_store_mid 29 _ _ rfl (w.heap.size + 1) 0 #[L8, .int .i64 cq, .int .i64 ca, .bool cs] rfl rfl ?_ (by kernel_rfl) ?_ ?_
          · intro j hj
            rw [Nat.zero_add, hy8.free j]
            refine ⟨?_, rfl⟩
            match j, hj with
            | 0, _ => rw [hy8.files]; rfl
            | 1, _ => rw [hy8.quota]; rfl
            | 2, _ => rw [hy8.armed]; rfl
            | 3, _ => rw [hy8.stopped]; rfl
          · obtain ⟨p8, cap8, rfl⟩ := ho8.shape
            refine all_oneCell_toArray (cs := [_, _, _, _]) ?_
            intro v hv
            simp only [List.mem_cons, List.not_mem_nil, or_false] at hv
            rcases hv with rfl | rfl | rfl | rfl <;> rfl
          refine hK.out _ _ ?_ ?_
          · exact ((((kep_set (S := fun b => b ≠ w.heap.size + 1) (fun h => h rfl) _).trans (kep_set (fun h => h rfl) _)).trans (kep_set (fun h => h rfl) _)).trans (kep_set (fun h => h rfl) _))
          clear hK K
          repeat (refine RK.take (by rfl) (by intro W hW; go_simp; with_reducible rfl) ?_; simp only [Act.put, List.setIfInBounds_toArray, List.set_cons_zero, List.set_cons_succ])
          refine RK.done ?_
          obtain ⟨q1, q2, q3⟩ := hE
          clear hy8 hyd hnd hfd ho8 hb8 ho7 hb7 hwo hwi hf7 hvbd hbwd hbd hwd
          go_wp2_with fail
          refine bodyPost_ret (results_row_tmp rfl _ _ (w.heap.size + 1) 29 _ (0, 0) rfl q1 infoDisk) rfl ⟨_, rfl, q2, q3⟩
theorem rrename_any (B : Nat) (L : Value) (d : DiskD) (n t : List UInt8) (w : World) (hL : FilesIn XB B w L d.L) (hB : B ≤ w.heap.size) (hl : d.L.length ≤ 1000000) (hn : n.length ≤ 1000000000) (ht : t.length ≤ 1000000000) (hnl : ∀ g ∈ d.L, g.name.length ≤ 1000000000) (ha0 : 0 ≤ d.armed) (ha1 : d.armed ≤ 9223372036854775807) (hXB : ∀ k, XB k → k < w.heap.size) :
    Calls Try.prog 30 #[diskV L d, .string ⟨n.toArray⟩, .string ⟨t.toArray⟩] w (TwoDisk XB (renameD d n t) w) := by
  obtain ⟨dl, dq, da, ds⟩ := d
  cases ds
  · exact rrename_on B L dl dq da n t w hL hB hl hn ht hnl ha0 ha1 hXB
  · exact rrename_stopped B L dl dq da n t w hL hB hl hn ht hnl ha0 ha1 hXB
end Go.Proofs.Ytljfpolcgegkpaa.DK
