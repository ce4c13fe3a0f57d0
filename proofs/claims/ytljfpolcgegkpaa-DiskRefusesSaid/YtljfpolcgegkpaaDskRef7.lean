/-
  The reference's Append, stopped or not: what the plain lists say. Condition: few files, few bytes.
-/
import Derived.Test.YtljfpolcgegkpaaDskRef6
set_option linter.unusedVariables false
namespace Go.Proofs.Ytljfpolcgegkpaa.DK
open Go.RowKit Go.Proofs.Ytljfpolcgegkpaa.MM
variable {XB : Nat → Prop}

set_option maxRecDepth 100000 in
set_option maxHeartbeats 4000000 in
theorem rappend_stopped (B : Nat) (L : Value) (dl : List FileD) (dq da : Int) (n : List UInt8) (w : World) (vb : Value) (b : List UInt8) (hvb : BIn B w vb b) (hL : FilesIn XB B w L dl) (hB : B ≤ w.heap.size) (hl : dl.length ≤ 1000000) (hn : n.length ≤ 1000000000) (hnl : ∀ g ∈ dl, g.name.length ≤ 1000000000) (ha0 : 0 ≤ da) (ha1 : da ≤ 9223372036854775807) :
    Calls Try.prog 35 #[diskV L (⟨dl, dq, da, true⟩ : DiskD), .string ⟨n.toArray⟩, vb] w (TwoDisk XB (appendD (⟨dl, dq, da, true⟩ : DiskD) n b) w) := by
  obtain ⟨p, cap, rfl, hlc, hcm⟩ := hL.shape
  obtain ⟨pv, capv, rfl, hvc, hvm⟩ := hvb.shape
  clear hvb
  obtain ⟨R, hR⟩ : ∃ R, appendD (⟨dl, dq, da, true⟩ : DiskD) n b = R := ⟨_, rfl⟩
  rw [hR]
  have HN := Lib.hid (fun W => named_any ⟨n.toArray⟩ n W rfl (by omega))
  have HF := Lib.hid (fun W (h : Below w.heap.size w W) => find_any B (diskV (.slice p dl.length cap) (⟨dl, dq, da, true⟩ : DiskD)) (⟨dl, dq, da, true⟩ : DiskD) n W ⟨_, rfl, hL.below (h.mono hB)⟩ (Nat.le_trans hB h.size) (by show dl.length ≤ _; omega))
  have HC := Lib.hid (fun W (h : Below w.heap.size w W) => call_any B (.slice p dl.length cap) (⟨dl, dq, da, true⟩ : DiskD) W (hL.below (h.mono hB)) (Nat.le_trans hB h.size) ha0 ha1)
  have HL := Lib.hid hL
  have HR := Lib.hid hR
  unfold diskV at HF HC
  dsimp only at HF
  obtain ⟨W0, hW0, hs0, hb0, hx0, hy0⟩ := start_box (w := w) (L := .slice p dl.length cap) (d := (⟨dl, dq, da, true⟩ : DiskD))
  have HB0 := Lib.hid hb0
  have HX0 := Lib.hid hx0
  have HY0 := Lib.hid hy0
  unfold diskV
  dsimp only at hW0 ⊢
  obtain ⟨S, hS⟩ : ∃ S : ByteArray, (⟨n.toArray⟩ : ByteArray) = S := ⟨_, rfl⟩
  rw [hS] at HN HF
  have HS := Lib.hid hS
  rw [hS]
  clear hL hR hb0 hx0 hy0 hS
  go_enter Try.func35, Try.ntmps35
  go_wp2_with fail
  refine (HN.out W0).mono ?_
  rintro e w1 ⟨rfl, hb1⟩
  have HBW1 := Lib.hid (HB0.out.trans (hb1.mono (by omega)))
  have hs1 := hb1.size
  have hx1 := HX0.out.below hb1 (by omega)
  have hy1 := HY0.out.below hb1 (by omega)
  have c10 := hx1.files
  have c11 := hx1.quota
  have c12 := hx1.armed
  have c13 := hx1.stopped
  have y10 := hy1.files
  have y11 := hy1.quota
  have y12 := hy1.armed
  have y13 := hy1.stopped
  have fy1 := fun k => hy1.free k
  have HX1 := Lib.hid hx1
  have HY1 := Lib.hid hy1
  have HE1 := Lib.hid (end_box (B := B) (k := w.heap.size + 1) (w := w) (W := w1) (L := .slice p dl.length cap) (d := (⟨dl, dq, da, true⟩ : DiskD)) hy1 (HL.out.below (HBW1.out.mono hB)) hB (Nat.le_succ _) HBW1.out)
  clear hx1 hy1
  clear hW0 hb1
  have hr := HR.out
  cases hnm : namedL n
  case' false => obtain rfl : R = (⟨dl, dq, da, true⟩, 60) := by rw [← hr]; simp [appendD, hnm]
  case' true => obtain rfl : R = (⟨dl, dq, da, true⟩, 63) := by rw [← hr]; simp [appendD, hnm]
  all_goals (
    obtain ⟨q1, q2, q3⟩ := HE1.out
    unfold putBox at q1 q2 q3
    go_wp2_with fail
    refine bodyPost_ret (results_row_tmp rfl _ _ (w.heap.size + 1) 29 _ (0, 0) rfl q1 infoDisk) rfl ⟨_, rfl, q2, q3⟩)
theorem rappend_any (B : Nat) (L : Value) (d : DiskD) (n : List UInt8) (w : World) (hL : FilesIn XB B w L d.L) (hB : B ≤ w.heap.size) (hl : d.L.length ≤ 1000000) (hn : n.length ≤ 1000000000) (vb : Value) (b : List UInt8) (hvb : BIn B w vb b) (hbl : b.length ≤ 1000000000) (hnl : ∀ g ∈ d.L, g.name.length ≤ 1000000000) (hfl : ∀ g ∈ d.L, g.b.length ≤ 1000000000) (hul : usedL d.L ≤ 1000000000000000) (hq1 : d.quota ≤ 9223372036854775807) (ha0 : 0 ≤ d.armed) (ha1 : d.armed ≤ 9223372036854775807) (hXB : ∀ k, XB k → k < w.heap.size) :
    Calls Try.prog 35 #[diskV L d, .string ⟨n.toArray⟩, vb] w (TwoDisk XB (appendD d n b) w) := by
  obtain ⟨dl, dq, da, ds⟩ := d
  cases ds
  · exact rappend_on B L dl dq da n w hL hB hl hn vb b hvb hbl hnl hfl hul hq1 ha0 ha1 hXB
  · exact rappend_stopped B L dl dq da n w vb b hvb hL hB hl hn hnl ha0 ha1
end Go.Proofs.Ytljfpolcgegkpaa.DK
