/-
  The reference's Remove: what the plain lists say. Condition: few files.
-/
import Derived.Test.YtljfpolcgegkpaaDskRef3
set_option linter.unusedVariables false
namespace Go.Proofs.Ytljfpolcgegkpaa.DK
open Go.RowKit Go.Proofs.Ytljfpolcgegkpaa.MM
variable {XB : Nat → Prop}

/-- A disk and an error's number that are handed back. -/
def TwoDisk (XB : Nat → Prop) (r : DiskD × Int) (w : World) (e : Ending) (w' : World) : Prop := ∃ v', e = .returned (.tuple #[v', .int .i64 r.2]) ∧ RDisk XB w'.heap.size w' v' r.1 ∧ Below w.heap.size w w'
/-- A disk put into the result's block. -/
def putBox (W : World) (g : Nat) (L : Value) (d : DiskD) : World := (((W.setCell ⟨g, 0, none⟩ L).setCell ⟨g, 1, none⟩ (.int .i64 d.quota)).setCell ⟨g, 2, none⟩ (.int .i64 d.armed)).setCell ⟨g, 3, none⟩ (.bool d.stopped)
theorem end_box {B k : Nat} {w W : World} {L Lx : Value} {d dx : DiskD} (hy : BoxAt W k Lx dx) (hL : FilesIn XB B W L d.L) (hB : B ≤ w.heap.size) (hk : w.heap.size ≤ k) (hW : Below w.heap.size w W) :
    BoxAt (putBox W k L d) k L d ∧ RDisk XB (putBox W k L d).heap.size (putBox W k L d) (diskV L d) d ∧ Below w.heap.size w (putBox W k L d) := by
  have hb : Below w.heap.size w (putBox W k L d) := (((hW.setCell (p := ⟨k, 0, none⟩) hk _).setCell (p := ⟨k, 1, none⟩) hk _).setCell (p := ⟨k, 2, none⟩) hk _).setCell (p := ⟨k, 3, none⟩) hk _
  have hb2 : Below B W (putBox W k L d) := ((((Below.refl B W).setCell (p := ⟨k, 0, none⟩) (Nat.le_trans hB hk) _).setCell (p := ⟨k, 1, none⟩) (Nat.le_trans hB hk) _).setCell (p := ⟨k, 2, none⟩) (Nat.le_trans hB hk) _).setCell (p := ⟨k, 3, none⟩) (Nat.le_trans hB hk) _
  exact ⟨box_four hy L d, ⟨L, rfl, (hL.below hb2).mono (Nat.le_trans hB hb.size)⟩, hb⟩
/-- .. of files of the call's own. -/
theorem end_own {A B k : Nat} {w W : World} {L Lx : Value} {d dx : DiskD} (hy : BoxAt W k Lx dx) (hL : OwnF XB A B W L d.L) (hA : A ≤ w.heap.size) (hk : w.heap.size ≤ k) (hkB : k < B) (hW : Below w.heap.size w W) (hX : ∀ k, XB k → k < w.heap.size) :
    BoxAt (putBox W k L d) k L d ∧ RDisk XB (putBox W k L d).heap.size (putBox W k L d) (diskV L d) d ∧ Below w.heap.size w (putBox W k L d) := by
  have hb : Below w.heap.size w (putBox W k L d) := (((hW.setCell (p := ⟨k, 0, none⟩) hk _).setCell (p := ⟨k, 1, none⟩) hk _).setCell (p := ⟨k, 2, none⟩) hk _).setCell (p := ⟨k, 3, none⟩) hk _
  have hAk : A ≤ k := Nat.le_trans hA hk
  have ho : OwnF XB A B (putBox W k L d) L d.L := (((hL.set hAk hkB).set hAk hkB).set hAk hkB).set hAk hkB
  exact ⟨box_four hy L d, ⟨L, rfl, ho.files (Nat.le_trans hA hb.size) (fun i hi => by have := hX i hi; omega)⟩, hb⟩
/-- The start of a call: a disk in a variable, and a result's block. -/
theorem start_box {w : World} {L : Value} {d : DiskD} : ∃ W, ((w.alloc (.cells #[L, .int .i64 d.quota, .int .i64 d.armed, .bool d.stopped] 29)).alloc (.cells #[.slice none 0 0, .int .i64 0, .int .i64 0, .bool false] 29)) = W ∧
    W.heap.size = w.heap.size + 2 ∧ Below w.heap.size w W ∧ BoxAt W w.heap.size L d ∧ BoxAt W (w.heap.size + 1) (.slice none 0 0) ⟨[], 0, 0, false⟩ := by
  refine ⟨_, rfl, by simp, ((Below.refl _ _).alloc (Nat.le_refl _) _).alloc (by simp) _, (box_new w L d).below ((Below.refl _ _).alloc (Nat.le_refl _) _) (by simp), ?_⟩
  have := box_new (w.alloc (.cells #[L, .int .i64 d.quota, .int .i64 d.armed, .bool d.stopped] 29)) (.slice none 0 0) ⟨[], 0, 0, false⟩
  rw [show (w.alloc (.cells #[L, .int .i64 d.quota, .int .i64 d.armed, .bool d.stopped] 29)).heap.size = w.heap.size + 1 by simp] at this
  exact this
theorem str_data (n : List UInt8) : (⟨n.toArray⟩ : ByteArray).data.toList = n := rfl

set_option maxRecDepth 100000 in
set_option maxHeartbeats 4000000 in
theorem rremove_stopped (B : Nat) (L : Value) (dl : List FileD) (dq da : Int) (n : List UInt8) (w : World) (hL : FilesIn XB B w L dl) (hB : B ≤ w.heap.size) (hl : dl.length ≤ 1000000) (hn : n.length ≤ 1000000000) (ha0 : 0 ≤ da) (ha1 : da ≤ 9223372036854775807) :
    Calls Try.prog 31 #[diskV L (⟨dl, dq, da, true⟩ : DiskD), .string ⟨n.toArray⟩] w (TwoDisk XB (removeD (⟨dl, dq, da, true⟩ : DiskD) n) w) := by
  obtain ⟨p, cap, rfl, hlc, hcm⟩ := hL.shape
  obtain ⟨R, hR⟩ : ∃ R, removeD (⟨dl, dq, da, true⟩ : DiskD) n = R := ⟨_, rfl⟩
  rw [hR]
  have HN := Lib.hid (fun W => named_any ⟨n.toArray⟩ n W rfl (by omega))
  have HF := Lib.hid (fun W (h : Below w.heap.size w W) => find_any B (diskV (.slice p dl.length cap) (⟨dl, dq, da, true⟩ : DiskD)) (⟨dl, dq, da, true⟩ : DiskD) n W ⟨_, rfl, hL.below (h.mono hB)⟩ (Nat.le_trans hB h.size) (by show dl.length ≤ _; omega))
  have HC := Lib.hid (fun W (h : Below w.heap.size w W) => call_any B (.slice p dl.length cap) (⟨dl, dq, da, true⟩ : DiskD) W (hL.below (h.mono hB)) (Nat.le_trans hB h.size) ha0 ha1)
  have HL := Lib.hid hL
  have HR := Lib.hid hR
  unfold diskV at HF HC
  dsimp only at HF
  obtain ⟨W0, hW0, hs0, hb0, hx0, hy0⟩ := start_box (w := w) (L := .slice p dl.length cap) (d := (⟨dl, dq, da, true⟩ : DiskD))
  have HB0 := Lib.hid hb0
  have HX0 := Lib.hid hx0
  have HY0 := Lib.hid hy0
  unfold diskV
  dsimp only at hW0 ⊢
  obtain ⟨S, hS⟩ : ∃ S : ByteArray, (⟨n.toArray⟩ : ByteArray) = S := ⟨_, rfl⟩
  rw [hS] at HN HF
  have HS := Lib.hid hS
  rw [hS]
  clear hL hR hb0 hx0 hy0 hS
  go_enter Try.func31, Try.ntmps31
  go_wp2_with fail
  refine (HN.out W0).mono ?_
  rintro e w1 ⟨rfl, hb1⟩
  have HBW1 := Lib.hid (HB0.out.trans (hb1.mono (by omega)))
  have hs1 := hb1.size
  have hx1 := HX0.out.below hb1 (by omega)
  have hy1 := HY0.out.below hb1 (by omega)
  have c10 := hx1.files
  have c11 := hx1.quota
  have c12 := hx1.armed
  have c13 := hx1.stopped
  have y10 := hy1.files
  have y11 := hy1.quota
  have y12 := hy1.armed
  have y13 := hy1.stopped
  have fy1 := fun k => hy1.free k
  have HX1 := Lib.hid hx1
  have HY1 := Lib.hid hy1
  have HE1 := Lib.hid (end_box (B := B) (k := w.heap.size + 1) (w := w) (W := w1) (L := .slice p dl.length cap) (d := (⟨dl, dq, da, true⟩ : DiskD)) hy1 (HL.out.below (HBW1.out.mono hB)) hB (Nat.le_succ _) HBW1.out)
  clear hx1 hy1
  clear hW0 hb1
  have hr := HR.out
  cases hnm : namedL n
  case' false => obtain rfl : R = (⟨dl, dq, da, true⟩, 60) := by rw [← hr]; simp [removeD, onD, hnm]
  case' true => obtain rfl : R = (⟨dl, dq, da, true⟩, 63) := by rw [← hr]; simp [removeD, onD, hnm]
  all_goals (
    obtain ⟨q1, q2, q3⟩ := HE1.out
    unfold putBox at q1 q2 q3
    go_wp2_with fail
    refine bodyPost_ret (results_row_tmp rfl _ _ (w.heap.size + 1) 29 _ (0, 0) rfl q1 infoDisk) rfl ⟨_, rfl, q2, q3⟩)
set_option maxRecDepth 100000 in
set_option maxHeartbeats 4000000 in
theorem rremove_on (B : Nat) (L : Value) (dl : List FileD) (dq da : Int) (n : List UInt8) (w : World) (hL : FilesIn XB B w L dl) (hB : B ≤ w.heap.size) (hl : dl.length ≤ 1000000) (hn : n.length ≤ 1000000000) (ha0 : 0 ≤ da) (ha1 : da ≤ 9223372036854775807) (hXB : ∀ k, XB k → k < w.heap.size) :
    Calls Try.prog 31 #[diskV L (⟨dl, dq, da, false⟩ : DiskD), .string ⟨n.toArray⟩] w (TwoDisk XB (removeD (⟨dl, dq, da, false⟩ : DiskD) n) w) := by
  have HXB := Lib.hid hXB
  clear hXB
  obtain ⟨p, cap, rfl, hlc, hcm⟩ := hL.shape
  obtain ⟨R, hR⟩ : ∃ R, removeD (⟨dl, dq, da, false⟩ : DiskD) n = R := ⟨_, rfl⟩
  rw [hR]
  have HN := Lib.hid (fun W => named_any ⟨n.toArray⟩ n W rfl (by omega))
  have HF := Lib.hid (fun W (h : Below w.heap.size w W) => find_any B (diskV (.slice p dl.length cap) (⟨dl, dq, da, false⟩ : DiskD)) (⟨dl, dq, da, false⟩ : DiskD) n W ⟨_, rfl, hL.below (h.mono hB)⟩ (Nat.le_trans hB h.size) (by show dl.length ≤ _; omega))
  have HC := Lib.hid (fun W (h : Below w.heap.size w W) => call_any B (.slice p dl.length cap) (⟨dl, dq, da, false⟩ : DiskD) W (hL.below (h.mono hB)) (Nat.le_trans hB h.size) ha0 ha1)
  have HL := Lib.hid hL
  have HR := Lib.hid hR
  unfold diskV at HF HC
  dsimp only at HF
  obtain ⟨W0, hW0, hs0, hb0, hx0, hy0⟩ := start_box (w := w) (L := .slice p dl.length cap) (d := (⟨dl, dq, da, false⟩ : DiskD))
  have HB0 := Lib.hid hb0
  have HX0 := Lib.hid hx0
  have HY0 := Lib.hid hy0
  unfold diskV
  dsimp only at hW0 ⊢
  obtain ⟨S, hS⟩ : ∃ S : ByteArray, (⟨n.toArray⟩ : ByteArray) = S := ⟨_, rfl⟩
  rw [hS] at HN HF
  have HS := Lib.hid hS
  rw [hS]
  clear hL hR hb0 hx0 hy0 hS
  go_enter Try.func31, Try.ntmps31
  go_wp2_with fail
  refine (HN.out W0).mono ?_
  rintro e w1 ⟨rfl, hb1⟩
  have HBW1 := Lib.hid (HB0.out.trans (hb1.mono (by omega)))
  have hs1 := hb1.size
  have hx1 := HX0.out.below hb1 (by omega)
  have hy1 := HY0.out.below hb1 (by omega)
  have c10 := hx1.files
  have c11 := hx1.quota
  have c12 := hx1.armed
  have c13 := hx1.stopped
  have y10 := hy1.files
  have y11 := hy1.quota
  have y12 := hy1.armed
  have y13 := hy1.stopped
  have fy1 := fun k => hy1.free k
  have HX1 := Lib.hid hx1
  have HY1 := Lib.hid hy1
  have HE1 := Lib.hid (end_box (B := B) (k := w.heap.size + 1) (w := w) (W := w1) (L := .slice p dl.length cap) (d := (⟨dl, dq, da, false⟩ : DiskD)) hy1 (HL.out.below (HBW1.out.mono hB)) hB (Nat.le_succ _) HBW1.out)
  clear hx1 hy1
  clear hW0 hb1
  have hr := HR.out
  cases hnm : namedL n with
  | false =>
    obtain rfl : R = (⟨dl, dq, da, false⟩, 60) := by rw [← hr]; simp [removeD, onD, hnm]
    obtain ⟨q1, q2, q3⟩ := HE1.out
    unfold putBox at q1 q2 q3
    go_wp2_with fail
    refine bodyPost_ret (results_row_tmp rfl _ _ (w.heap.size + 1) 29 _ (0, 0) rfl q1 infoDisk) rfl ⟨_, rfl, q2, q3⟩
  | true =>
    have HNM := Lib.hid hnm
    have HK2 := Lib.hid (HF.out w1 HBW1.out)
    clear hr
    go_wp2_with fail
    refine HK2.out.mono ?_
    rintro e w2 ⟨k, rfl, hkf, hkl, hb2⟩
    have HBW2 := Lib.hid (HBW1.out.trans (hb2.mono HBW1.out.size))
    have hs2 := hb2.size
    have hx2 := HX1.out.below hb2 HX1.out.lt
    have hy2 := HY1.out.below hb2 HY1.out.lt
    have c20 := hx2.files
    have c21 := hx2.quota
    have c22 := hx2.armed
    have c23 := hx2.stopped
    have y20 := hy2.files
    have y21 := hy2.quota
    have y22 := hy2.armed
    have y23 := hy2.stopped
    have fy2 := fun k => hy2.free k
    have HX2 := Lib.hid hx2
    have HY2 := Lib.hid hy2
    have HE2 := Lib.hid (end_box (B := B) (k := w.heap.size + 1) (w := w) (W := w2) (L := (.slice p dl.length cap)) (d := (⟨dl, dq, da, false⟩ : DiskD)) hy2 (HL.out.below (HBW2.out.mono hB)) hB (Nat.le_succ _) HBW2.out)
    clear hx2 hy2
    clear hb2 HK2 c10 c11 c12 c13 y10 y11 y12 y13 fy1 HE1
    have hr := HR.out
    cases hff : findL dl n with
    | none =>
      obtain rfl : R = (⟨dl, dq, da, false⟩, 61) := by rw [← hr]; simp [removeD, onD, hnm, hff]
      obtain ⟨q1, q2, q3⟩ := HE2.out
      unfold putBox at q1 q2 q3
      go_wp2_with fail
      refine bodyPost_ret (results_row_tmp rfl _ _ (w.heap.size + 1) 29 _ (0, 0) rfl q1 infoDisk) rfl ⟨_, rfl, q2, q3⟩
    | some f =>
      have HK3 := Lib.hid (HC.out w2 HBW2.out)
      have hcl := call_L (⟨dl, dq, da, false⟩ : DiskD)
      obtain ⟨⟨⟨cl, cq, ca, cs⟩, cb⟩, hcd⟩ : ∃ r, callD (⟨dl, dq, da, false⟩ : DiskD) = r := ⟨_, rfl⟩
      rw [hcd] at HK3 hcl
      dsimp only at hcl
      obtain ⟨rfl, rfl⟩ := hcl
      have hr2 : (if cb = true then ((⟨cl, cq, ca, cs⟩ : DiskD), (63 : Int)) else (⟨withoutL cl n, cq, ca, cs⟩, 0)) = R := by rw [← hr]; simp only [removeD, onD, hnm, hff, hcd]; simp
      have HR2 := Lib.hid hr2
      have HFF := Lib.hid hff
      clear hr hr2 hcd hkf
      unfold CallLeft diskV at HK3
      dsimp only at HK3
      go_wp2_with fail
      refine HK3.out.mono ?_
      rintro e w3 ⟨rfl, hb3⟩
      have HBW3 := Lib.hid (HBW2.out.trans (hb3.mono HBW2.out.size))
      have hs3 := hb3.size
      have hx3 := HX2.out.below hb3 HX2.out.lt
      have hy3 := HY2.out.below hb3 HY2.out.lt
      have c30 := hx3.files
      have c31 := hx3.quota
      have c32 := hx3.armed
      have c33 := hx3.stopped
      have y30 := hy3.files
      have y31 := hy3.quota
      have y32 := hy3.armed
      have y33 := hy3.stopped
      have fy3 := fun k => hy3.free k
      have HX3 := Lib.hid hx3
      have HY3 := Lib.hid hy3
      have HE3 := Lib.hid (end_box (B := B) (k := w.heap.size + 1) (w := w) (W := w3) (L := (.slice p cl.length cap)) (d := (⟨cl, cq, ca, cs⟩ : DiskD)) hy3 (HL.out.below (HBW3.out.mono hB)) hB (Nat.le_succ _) HBW3.out)
      clear hx3 hy3
      clear hb3 HK3 c20 c21 c22 c23 y20 y21 y22 y23 fy2 HE2
      obtain ⟨W4, hW4⟩ : ∃ W, w3.alloc (.cells #[.slice p cl.length cap, .int .i64 cq, .int .i64 ca, .bool cs] 29) = W := ⟨_, rfl⟩
      have hb4 : Below w3.heap.size w3 W4 := by rw [← hW4]; exact (Below.refl _ _).alloc (Nat.le_refl _) _
      have hx4 : BoxAt W4 w3.heap.size (.slice p cl.length cap) ⟨cl, cq, ca, cs⟩ := by rw [← hW4]; exact box_new w3 _ ⟨cl, cq, ca, cs⟩
      have n0 := hx4.files
      have n1 := hx4.quota
      have n2 := hx4.armed
      have n3 := hx4.stopped
      have HBW4 := Lib.hid (HBW3.out.trans (hb4.mono HBW3.out.size))
      have hs4 := hb4.size
      have hx4 := HX3.out.below hb4 HX3.out.lt
      have hy4 := HY3.out.below hb4 HY3.out.lt
      have c40 := hx4.files
      have c41 := hx4.quota
      have c42 := hx4.armed
      have c43 := hx4.stopped
      have y40 := hy4.files
      have y41 := hy4.quota
      have y42 := hy4.armed
      have y43 := hy4.stopped
      have fy4 := fun k => hy4.free k
      have HX4 := Lib.hid hx4
      have HY4 := Lib.hid hy4
      have HE4 := Lib.hid (end_box (B := B) (k := w.heap.size + 1) (w := w) (W := W4) (L := (.slice p cl.length cap)) (d := (⟨cl, cq, ca, cs⟩ : DiskD)) hy4 (HL.out.below (HBW4.out.mono hB)) hB (Nat.le_succ _) HBW4.out)
      clear hx4 hy4
      have HWT := Lib.hid (without_any B (diskV (.slice p cl.length cap) ⟨cl, cq, ca, cs⟩) ⟨cl, cq, ca, cs⟩ n W4 ⟨_, rfl, HL.out.below (HBW4.out.mono hB)⟩ (Nat.le_trans hB HBW4.out.size) hl)
      rw [HS.out] at HWT
      unfold diskV at HWT
      dsimp only at HWT
      clear hb4 hx4 c30 c31 c32 c33 y30 y31 y32 y33 fy3 HE3
      have hr := HR2.out
      cases cb with
      | true =>
        obtain rfl : R = (⟨cl, cq, ca, cs⟩, 63) := hr.symm
        obtain ⟨q1, q2, q3⟩ := HE4.out
        unfold putBox at q1 q2 q3
        go_wp2_with fail
        refine bodyPost_ret (results_row_tmp rfl _ _ (w.heap.size + 1) 29 _ (0, 0) rfl q1 infoDisk) rfl ⟨_, rfl, q2, q3⟩
      | false =>
        obtain rfl : R = (⟨withoutL cl n, cq, ca, cs⟩, 0) := hr.symm
        clear hr
        go_wp2_with fail
        refine HWT.out.mono ?_
        rintro e w5 ⟨L5, rfl, ho5, hb5⟩
        dsimp only at ho5
        have hby5 := HY4.out.below hb5 HY4.out.lt
        have z0 := hby5.files
        have z1 := hby5.quota
        have z2 := hby5.armed
        have z3 := hby5.stopped
        have fz := fun k => hby5.free k
        obtain ⟨p5, cap5, rfl⟩ := ho5.shape
        have HE5 := Lib.hid (end_own (k := w.heap.size + 1) (w := w) (W := w5) (d := (⟨withoutL cl n, cq, ca, cs⟩ : DiskD)) hby5 ho5 hB (Nat.le_succ _) (by omega) (HBW4.out.trans (hb5.mono HBW4.out.size)) HXB.out)
        unfold diskV
        dsimp only
        clear hby5 ho5 hb5 c40 c41 c42 c43 y40 y41 y42 y43 fy4 HE4
        obtain ⟨q1, q2, q3⟩ := HE5.out
        unfold putBox at q1 q2 q3
        go_wp2_with fail
        refine bodyPost_ret (results_row_tmp rfl _ _ (w.heap.size + 1) 29 _ (0, 0) rfl q1 infoDisk) rfl ⟨_, rfl, q2, q3⟩
theorem rremove_any (B : Nat) (L : Value) (d : DiskD) (n : List UInt8) (w : World) (hL : FilesIn XB B w L d.L) (hB : B ≤ w.heap.size) (hl : d.L.length ≤ 1000000) (hn : n.length ≤ 1000000000) (ha0 : 0 ≤ d.armed) (ha1 : d.armed ≤ 9223372036854775807) (hXB : ∀ k, XB k → k < w.heap.size) :
    Calls Try.prog 31 #[diskV L d, .string ⟨n.toArray⟩] w (TwoDisk XB (removeD d n) w) := by
  obtain ⟨dl, dq, da, ds⟩ := d
  cases ds
  · exact rremove_on B L dl dq da n w hL hB hl hn ha0 ha1 hXB
  · exact rremove_stopped B L dl dq da n w hL hB hl hn ha0 ha1
end Go.Proofs.Ytljfpolcgegkpaa.DK
