/-
  The reference's Sync: what the plain lists say. Condition: few files.
-/
import Derived.Test.YtljfpolcgegkpaaDskRef4
set_option linter.unusedVariables false
namespace Go.Proofs.Ytljfpolcgegkpaa.DK
open Go.RowKit Go.Proofs.Ytljfpolcgegkpaa.MM
variable {XB : Nat → Prop}

set_option maxRecDepth 100000 in
set_option maxHeartbeats 4000000 in
theorem rsync_stopped (B : Nat) (L : Value) (dl : List FileD) (dq da : Int) (n : List UInt8) (w : World) (hL : FilesIn XB B w L dl) (hB : B ≤ w.heap.size) (hl : dl.length ≤ 1000000) (hn : n.length ≤ 1000000000) (hnl : ∀ g ∈ dl, g.name.length ≤ 1000000000) (ha0 : 0 ≤ da) (ha1 : da ≤ 9223372036854775807) :
    Calls Try.prog 29 #[diskV L (⟨dl, dq, da, true⟩ : DiskD), .string ⟨n.toArray⟩] w (TwoDisk XB (syncD (⟨dl, dq, da, true⟩ : DiskD) n) w) := by
  obtain ⟨p, cap, rfl, hlc, hcm⟩ := hL.shape
  obtain ⟨R, hR⟩ : ∃ R, syncD (⟨dl, dq, da, true⟩ : DiskD) n = R := ⟨_, rfl⟩
  rw [hR]
  have HN := Lib.hid (fun W => named_any ⟨n.toArray⟩ n W rfl (by omega))
  have HF := Lib.hid (fun W (h : Below w.heap.size w W) => find_any B (diskV (.slice p dl.length cap) (⟨dl, dq, da, true⟩ : DiskD)) (⟨dl, dq, da, true⟩ : DiskD) n W ⟨_, rfl, hL.below (h.mono hB)⟩ (Nat.le_trans hB h.size) (by show dl.length ≤ _; omega))
  have HC := Lib.hid (fun W (h : Below w.heap.size w W) => call_any B (.slice p dl.length cap) (⟨dl, dq, da, true⟩ : DiskD) W (hL.below (h.mono hB)) (Nat.le_trans hB h.size) ha0 ha1)
  have HL := Lib.hid hL
  have HR := Lib.hid hR
  unfold diskV at HF HC
  dsimp only at HF
  obtain ⟨W0, hW0, hs0, hb0, hx0, hy0⟩ := start_box (w := w) (L := .slice p dl.length cap) (d := (⟨dl, dq, da, true⟩ : DiskD))
  have HB0 := Lib.hid hb0
  have HX0 := Lib.hid hx0
  have HY0 := Lib.hid hy0
  unfold diskV
  dsimp only at hW0 ⊢
  obtain ⟨S, hS⟩ : ∃ S : ByteArray, (⟨n.toArray⟩ : ByteArray) = S := ⟨_, rfl⟩
  rw [hS] at HN HF
  have HS := Lib.hid hS
  rw [hS]
  clear hL hR hb0 hx0 hy0 hS
  go_enter Try.func29, Try.ntmps29
  go_wp2_with fail
  refine (HN.out W0).mono ?_
  rintro e w1 ⟨rfl, hb1⟩
  have HBW1 := Lib.hid (HB0.out.trans (hb1.mono (by omega)))
  have hs1 := hb1.size
  have hx1 := HX0.out.below hb1 (by omega)
  have hy1 := HY0.out.below hb1 (by omega)
  have c10 := hx1.files
  have c11 := hx1.quota
  have c12 := hx1.armed
  have c13 := hx1.stopped
  have y10 := hy1.files
  have y11 := hy1.quota
  have y12 := hy1.armed
  have y13 := hy1.stopped
  have fy1 := fun k => hy1.free k
  have HX1 := Lib.hid hx1
  have HY1 := Lib.hid hy1
  have HE1 := Lib.hid (end_box (B := B) (k := w.heap.size + 1) (w := w) (W := w1) (L := .slice p dl.length cap) (d := (⟨dl, dq, da, true⟩ : DiskD)) hy1 (HL.out.below (HBW1.out.mono hB)) hB (Nat.le_succ _) HBW1.out)
  clear hx1 hy1
  clear hW0 hb1
  have hr := HR.out
  cases hnm : namedL n
  case' false => obtain rfl : R = (⟨dl, dq, da, true⟩, 60) := by rw [← hr]; simp [syncD, onD, hnm]
  case' true => obtain rfl : R = (⟨dl, dq, da, true⟩, 63) := by rw [← hr]; simp [syncD, onD, hnm]
  all_goals (
    obtain ⟨q1, q2, q3⟩ := HE1.out
    unfold putBox at q1 q2 q3
    go_wp2_with fail
    refine bodyPost_ret (results_row_tmp rfl _ _ (w.heap.size + 1) 29 _ (0, 0) rfl q1 infoDisk) rfl ⟨_, rfl, q2, q3⟩)
set_option maxRecDepth 100000 in
set_option maxHeartbeats 4000000 in
theorem rsync_on (B : Nat) (L : Value) (dl : List FileD) (dq da : Int) (n : List UInt8) (w : World) (hL : FilesIn XB B w L dl) (hB : B ≤ w.heap.size) (hl : dl.length ≤ 1000000) (hn : n.length ≤ 1000000000) (hnl : ∀ g ∈ dl, g.name.length ≤ 1000000000) (ha0 : 0 ≤ da) (ha1 : da ≤ 9223372036854775807) (hXB : ∀ k, XB k → k < w.heap.size) :
    Calls Try.prog 29 #[diskV L (⟨dl, dq, da, false⟩ : DiskD), .string ⟨n.toArray⟩] w (TwoDisk XB (syncD (⟨dl, dq, da, false⟩ : DiskD) n) w) := by
  have HXB := Lib.hid hXB
  clear hXB
  obtain ⟨p, cap, rfl, hlc, hcm⟩ := hL.shape
  obtain ⟨R, hR⟩ : ∃ R, syncD (⟨dl, dq, da, false⟩ : DiskD) n = R := ⟨_, rfl⟩
  rw [hR]
  have HN := Lib.hid (fun W => named_any ⟨n.toArray⟩ n W rfl (by omega))
  have HF := Lib.hid (fun W (h : Below w.heap.size w W) => find_any B (diskV (.slice p dl.length cap) (⟨dl, dq, da, false⟩ : DiskD)) (⟨dl, dq, da, false⟩ : DiskD) n W ⟨_, rfl, hL.below (h.mono hB)⟩ (Nat.le_trans hB h.size) (by show dl.length ≤ _; omega))
  have HC := Lib.hid (fun W (h : Below w.heap.size w W) => call_any B (.slice p dl.length cap) (⟨dl, dq, da, false⟩ : DiskD) W (hL.below (h.mono hB)) (Nat.le_trans hB h.size) ha0 ha1)
  have HL := Lib.hid hL
  have HR := Lib.hid hR
  unfold diskV at HF HC
  dsimp only at HF
  obtain ⟨W0, hW0, hs0, hb0, hx0, hy0⟩ := start_box (w := w) (L := .slice p dl.length cap) (d := (⟨dl, dq, da, false⟩ : DiskD))
  have HB0 := Lib.hid hb0
  have HX0 := Lib.hid hx0
  have HY0 := Lib.hid hy0
  unfold diskV
  dsimp only at hW0 ⊢
  obtain ⟨S, hS⟩ : ∃ S : ByteArray, (⟨n.toArray⟩ : ByteArray) = S := ⟨_, rfl⟩
  rw [hS] at HN HF
  have HS := Lib.hid hS
  rw [hS]
  clear hL hR hb0 hx0 hy0 hS
  go_enter Try.func29, Try.ntmps29
  go_wp2_with fail
  refine (HN.out W0).mono ?_
  rintro e w1 ⟨rfl, hb1⟩
  have HBW1 := Lib.hid (HB0.out.trans (hb1.mono (by omega)))
  have hs1 := hb1.size
  have hx1 := HX0.out.below hb1 (by omega)
  have hy1 := HY0.out.below hb1 (by omega)
  have c10 := hx1.files
  have c11 := hx1.quota
  have c12 := hx1.armed
  have c13 := hx1.stopped
  have y10 := hy1.files
  have y11 := hy1.quota
  have y12 := hy1.armed
  have y13 := hy1.stopped
  have fy1 := fun k => hy1.free k
  have HX1 := Lib.hid hx1
  have HY1 := Lib.hid hy1
  have HE1 := Lib.hid (end_box (B := B) (k := w.heap.size + 1) (w := w) (W := w1) (L := .slice p dl.length cap) (d := (⟨dl, dq, da, false⟩ : DiskD)) hy1 (HL.out.below (HBW1.out.mono hB)) hB (Nat.le_succ _) HBW1.out)
  clear hx1 hy1
  clear hW0 hb1
  have hr := HR.out
  cases hnm : namedL n with
  | false =>
    obtain rfl : R = (⟨dl, dq, da, false⟩, 60) := by rw [← hr]; simp [syncD, onD, hnm]
    obtain ⟨q1, q2, q3⟩ := HE1.out
    unfold putBox at q1 q2 q3
    go_wp2_with fail
    refine bodyPost_ret (results_row_tmp rfl _ _ (w.heap.size + 1) 29 _ (0, 0) rfl q1 infoDisk) rfl ⟨_, rfl, q2, q3⟩
  | true =>
    have HNM := Lib.hid hnm
    have HK2 := Lib.hid (HF.out w1 HBW1.out)
    clear hr
    go_wp2_with fail
    refine HK2.out.mono ?_
    rintro e w2 ⟨k, rfl, hkf, hkl, hb2⟩
    have HBW2 := Lib.hid (HBW1.out.trans (hb2.mono HBW1.out.size))
    have hs2 := hb2.size
    have hx2 := HX1.out.below hb2 HX1.out.lt
    have hy2 := HY1.out.below hb2 HY1.out.lt
    have c20 := hx2.files
    have c21 := hx2.quota
    have c22 := hx2.armed
    have c23 := hx2.stopped
    have y20 := hy2.files
    have y21 := hy2.quota
    have y22 := hy2.armed
    have y23 := hy2.stopped
    have fy2 := fun k => hy2.free k
    have HX2 := Lib.hid hx2
    have HY2 := Lib.hid hy2
    have HE2 := Lib.hid (end_box (B := B) (k := w.heap.size + 1) (w := w) (W := w2) (L := (.slice p dl.length cap)) (d := (⟨dl, dq, da, false⟩ : DiskD)) hy2 (HL.out.below (HBW2.out.mono hB)) hB (Nat.le_succ _) HBW2.out)
    clear hx2 hy2
    clear hb2 HK2 c10 c11 c12 c13 y10 y11 y12 y13 fy1 HE1
    have hr := HR.out
    cases hff : findL dl n with
    | none =>
      obtain rfl : R = (⟨dl, dq, da, false⟩, 61) := by rw [← hr]; simp [syncD, onD, hnm, hff]
      obtain ⟨q1, q2, q3⟩ := HE2.out
      unfold putBox at q1 q2 q3
      go_wp2_with fail
      refine bodyPost_ret (results_row_tmp rfl _ _ (w.heap.size + 1) 29 _ (0, 0) rfl q1 infoDisk) rfl ⟨_, rfl, q2, q3⟩
    | some f =>
      have HK3 := Lib.hid (HC.out w2 HBW2.out)
      have hcl := call_L (⟨dl, dq, da, false⟩ : DiskD)
      obtain ⟨⟨⟨cl, cq, ca, cs⟩, cb⟩, hcd⟩ : ∃ r, callD (⟨dl, dq, da, false⟩ : DiskD) = r := ⟨_, rfl⟩
      rw [hcd] at HK3 hcl
      dsimp only at hcl
      obtain ⟨rfl, rfl⟩ := hcl
      have hr2 : (if cb = true then ((⟨cl, cq, ca, cs⟩ : DiskD), (63 : Int)) else (⟨withL cl ⟨f.name, f.b, f.b.length⟩, cq, ca, cs⟩, 0)) = R := by rw [← hr]; simp only [syncD, onD, hnm, hff, hcd]; simp
      have HR2 := Lib.hid hr2
      have HFF := Lib.hid hff
      have hfk := hkf f hff
      clear hr hr2 hcd hkf
      unfold CallLeft diskV at HK3
      dsimp only at HK3
      go_wp2_with fail
      refine HK3.out.mono ?_
      rintro e w3 ⟨rfl, hb3⟩
      have HBW3 := Lib.hid (HBW2.out.trans (hb3.mono HBW2.out.size))
      have hs3 := hb3.size
      have hx3 := HX2.out.below hb3 HX2.out.lt
      have hy3 := HY2.out.below hb3 HY2.out.lt
      have c30 := hx3.files
      have c31 := hx3.quota
      have c32 := hx3.armed
      have c33 := hx3.stopped
      have y30 := hy3.files
      have y31 := hy3.quota
      have y32 := hy3.armed
      have y33 := hy3.stopped
      have fy3 := fun k => hy3.free k
      have HX3 := Lib.hid hx3
      have HY3 := Lib.hid hy3
      have HE3 := Lib.hid (end_box (B := B) (k := w.heap.size + 1) (w := w) (W := w3) (L := (.slice p cl.length cap)) (d := (⟨cl, cq, ca, cs⟩ : DiskD)) hy3 (HL.out.below (HBW3.out.mono hB)) hB (Nat.le_succ _) HBW3.out)
      clear hx3 hy3
      clear hb3 HK3 c20 c21 c22 c23 y20 y21 y22 y23 fy2 HE2
      obtain ⟨W4, hW4⟩ : ∃ W, w3.alloc (.cells #[.slice p cl.length cap, .int .i64 cq, .int .i64 ca, .bool cs] 29) = W := ⟨_, rfl⟩
      have hb4 : Below w3.heap.size w3 W4 := by rw [← hW4]; exact (Below.refl _ _).alloc (Nat.le_refl _) _
      have hx4 : BoxAt W4 w3.heap.size (.slice p cl.length cap) ⟨cl, cq, ca, cs⟩ := by rw [← hW4]; exact box_new w3 _ ⟨cl, cq, ca, cs⟩
      have n0 := hx4.files
      have n1 := hx4.quota
      have n2 := hx4.armed
      have n3 := hx4.stopped
      have HBW4 := Lib.hid (HBW3.out.trans (hb4.mono HBW3.out.size))
      have hs4 := hb4.size
      have hx4 := HX3.out.below hb4 HX3.out.lt
      have hy4 := HY3.out.below hb4 HY3.out.lt
      have c40 := hx4.files
      have c41 := hx4.quota
      have c42 := hx4.armed
      have c43 := hx4.stopped
      have y40 := hy4.files
      have y41 := hy4.quota
      have y42 := hy4.armed
      have y43 := hy4.stopped
      have fy4 := fun k => hy4.free k
      have HX4 := Lib.hid hx4
      have HY4 := Lib.hid hy4
      have HE4 := Lib.hid (end_box (B := B) (k := w.heap.size + 1) (w := w) (W := W4) (L := (.slice p cl.length cap)) (d := (⟨cl, cq, ca, cs⟩ : DiskD)) hy4 (HL.out.below (HBW4.out.mono hB)) hB (Nat.le_succ _) HBW4.out)
      clear hx4 hy4
      obtain ⟨blk, off, vb, rfl, hblk, hvb, x0, x1, x2⟩ := (HL.out.below (HBW4.out.mono hB)).at_ hfk
      obtain ⟨pb, capb, rfl, _, _⟩ := hvb.shape
      unfold strV at x0
      obtain ⟨SN, hSN⟩ : ∃ S : ByteArray, (⟨f.name.toArray⟩ : ByteArray) = S := ⟨_, rfl⟩
      rw [hSN] at x0
      have hkk := (List.getElem?_eq_some_iff.1 hfk).1
      have i1 : (k : Int) < (cl.length : Int) := by omega
      obtain ⟨W5, hW5⟩ : ∃ W, W4.alloc (.cells #[.string SN, .slice pb f.b.length capb, .int .i64 (f.b.length : Int)] 48) = W := ⟨_, rfl⟩
      have hb5 : Below W4.heap.size W4 W5 := by rw [← hW5]; exact (Below.refl _ _).alloc (Nat.le_refl _) _
      have HBW5 := Lib.hid (HBW4.out.trans (hb5.mono HBW4.out.size))
      have hs5 := hb5.size
      have HY5 := Lib.hid (HY4.out.below hb5 HY4.out.lt)
      have HWT := Lib.hid (with_any B (diskV (.slice (some ⟨blk, off, none⟩) cl.length cap) ⟨cl, cq, ca, cs⟩) (.slice pb f.b.length capb) ⟨cl, cq, ca, cs⟩ ⟨f.name, f.b, f.b.length⟩ W5 ⟨_, rfl, HL.out.below (HBW5.out.mono hB)⟩ (hvb.below (hb5.mono (Nat.le_trans hB HBW4.out.size))) (Nat.le_trans hB HBW5.out.size) hl (by show f.name.length ≤ _; exact hnl f (List.mem_of_getElem? hfk)) hnl)
      unfold diskV fileV strV at HWT
      dsimp only at HWT
      rw [hSN] at HWT
      have hx5 := hx4.below hb5 hx4.lt
      have m0 := hx5.files
      have m1 := hx5.quota
      have m2 := hx5.armed
      have m3 := hx5.stopped
      have hf5 : W5.heap[W4.heap.size]? = some (.cells #[.string SN, .slice pb f.b.length capb, .int .i64 (f.b.length : Int)] 48 (0, 0)) := by rw [← hW5]; exact heap_alloc_new _ _
      have fb0 : W5.cell? ⟨W4.heap.size, 0, none⟩ = some (.string SN) := by rw [cell_of_row _ _ 0 _ _ _ hf5]; rfl
      have fb1 : W5.cell? ⟨W4.heap.size, 1, none⟩ = some (.slice pb f.b.length capb) := by rw [cell_of_row _ _ 1 _ _ _ hf5]; rfl
      have fb2 : W5.cell? ⟨W4.heap.size, 2, none⟩ = some (.int .i64 (f.b.length : Int)) := by rw [cell_of_row _ _ 2 _ _ _ hf5]; rfl
      clear hb4 hb5 hx4 hx5 hf5 hvb hSN hfk hkk c30 c31 c32 c33 y30 y31 y32 y33 fy3 HE3
      have hr := HR2.out
      cases cb with
      | true =>
        obtain rfl : R = (⟨cl, cq, ca, cs⟩, 63) := hr.symm
        clear hW5
        obtain ⟨q1, q2, q3⟩ := HE4.out
        unfold putBox at q1 q2 q3
        go_wp2_with fail
        refine bodyPost_ret (results_row_tmp rfl _ _ (w.heap.size + 1) 29 _ (0, 0) rfl q1 infoDisk) rfl ⟨_, rfl, q2, q3⟩
      | false =>
        obtain rfl : R = (⟨withL cl ⟨f.name, f.b, f.b.length⟩, cq, ca, cs⟩, 0) := hr.symm
        clear hr
        go_wp2_with fail
        refine HWT.out.mono ?_
        rintro e w5 ⟨L5, rfl, ho5, hb6⟩
        dsimp only at ho5
        have hby5 := HY5.out.below hb6 HY5.out.lt
        have z0 := hby5.files
        have z1 := hby5.quota
        have z2 := hby5.armed
        have z3 := hby5.stopped
        have fz := fun k => hby5.free k
        obtain ⟨p5, cap5, rfl⟩ := ho5.shape
        have HE5 := Lib.hid (end_own (k := w.heap.size + 1) (w := w) (W := w5) (d := (⟨withL cl ⟨f.name, f.b, f.b.length⟩, cq, ca, cs⟩ : DiskD)) hby5 ho5 hB (Nat.le_succ _) (by omega) (HBW5.out.trans (hb6.mono HBW5.out.size)) HXB.out)
        unfold diskV
        dsimp only
        clear hby5 ho5 hb6 c40 c41 c42 c43 y40 y41 y42 y43 fy4 HE4
        obtain ⟨q1, q2, q3⟩ := HE5.out
        unfold putBox at q1 q2 q3
        go_wp2_with fail
        refine bodyPost_ret (results_row_tmp rfl _ _ (w.heap.size + 1) 29 _ (0, 0) rfl q1 infoDisk) rfl ⟨_, rfl, q2, q3⟩
theorem rsync_any (B : Nat) (L : Value) (d : DiskD) (n : List UInt8) (w : World) (hL : FilesIn XB B w L d.L) (hB : B ≤ w.heap.size) (hl : d.L.length ≤ 1000000) (hn : n.length ≤ 1000000000) (hnl : ∀ g ∈ d.L, g.name.length ≤ 1000000000) (ha0 : 0 ≤ d.armed) (ha1 : d.armed ≤ 9223372036854775807) (hXB : ∀ k, XB k → k < w.heap.size) :
    Calls Try.prog 29 #[diskV L d, .string ⟨n.toArray⟩] w (TwoDisk XB (syncD d n) w) := by
  obtain ⟨dl, dq, da, ds⟩ := d
  cases ds
  · exact rsync_on B L dl dq da n w hL hB hl hn hnl ha0 ha1 hXB
  · exact rsync_stopped B L dl dq da n w hL hB hl hn hnl ha0 ha1
end Go.Proofs.Ytljfpolcgegkpaa.DK
