/-
  The reference's Size and Durable: what the plain lists say. Condition: few files.
-/
import Derived.Test.YtljfpolcgegkpaaDskRef7
set_option linter.unusedVariables false
namespace Go.Proofs.Ytljfpolcgegkpaa.DK
open Go.RowKit Go.Proofs.Ytljfpolcgegkpaa.MM
variable {XB : Nat → Prop}

/-- Size's answer. -/
def sizeD (d : DiskD) (n : List UInt8) : Nat × Bool := match findL d.L n with
  | some f => if d.stopped = true then (0, false) else (f.b.length, true)
  | none => (0, false)
def durableD (d : DiskD) (n : List UInt8) : Nat := ((findL d.L n).map (·.sure)).getD 0
set_option maxRecDepth 100000 in
set_option maxHeartbeats 4000000 in
theorem rsize_any (B : Nat) (L : Value) (d : DiskD) (n : List UInt8) (w : World) (hL : FilesIn XB B w L d.L) (hB : B ≤ w.heap.size) (hl : d.L.length ≤ 1000000) :
    Calls Try.prog 36 #[diskV L d, .string ⟨n.toArray⟩] w fun e w' => e = .returned (.tuple #[.int .i64 ((sizeD d n).1 : Int), .bool (sizeD d n).2]) ∧ Below w.heap.size w w' := by
  obtain ⟨dl, dq, da, ds⟩ := d
  obtain ⟨p, cap, rfl, hlc, hcm⟩ := hL.shape
  dsimp only at hL hl hlc ⊢
  have HF := Lib.hid (fun W (h : Below w.heap.size w W) => find_any B (diskV (.slice p dl.length cap) (⟨dl, dq, da, ds⟩ : DiskD)) (⟨dl, dq, da, ds⟩ : DiskD) n W ⟨_, rfl, hL.below (h.mono hB)⟩ (Nat.le_trans hB h.size) (by show dl.length ≤ _; omega))
  have HL := Lib.hid hL
  obtain ⟨R, hR⟩ : ∃ R, sizeD (⟨dl, dq, da, ds⟩ : DiskD) n = R := ⟨_, rfl⟩
  rw [hR]
  have HR := Lib.hid hR
  unfold diskV at HF
  dsimp only at HF
  obtain ⟨W0, hW0⟩ : ∃ W, w.alloc (.cells #[.slice p dl.length cap, .int .i64 dq, .int .i64 da, .bool ds] 29) = W := ⟨_, rfl⟩
  have HX0 := Lib.hid (show BoxAt W0 w.heap.size (.slice p dl.length cap) (⟨dl, dq, da, ds⟩ : DiskD) by rw [← hW0]; exact box_new w _ ⟨dl, dq, da, ds⟩)
  have HB0 := Lib.hid (show Below w.heap.size w W0 by rw [← hW0]; exact (Below.refl _ _).alloc (Nat.le_refl _) _)
  have c0 := HX0.out.files
  have c1 := HX0.out.quota
  have c2 := HX0.out.armed
  have c3 := HX0.out.stopped
  unfold diskV
  dsimp only
  obtain ⟨S, hS⟩ : ∃ S : ByteArray, (⟨n.toArray⟩ : ByteArray) = S := ⟨_, rfl⟩
  rw [hS] at HF
  rw [hS]
  clear hL hR hS
  go_enter Try.func36, Try.ntmps36
  go_wp2_with fail
  refine (HF.out W0 HB0.out).mono ?_
  rintro e w1 ⟨k, rfl, hkf, hkl, hb1⟩
  have HB1 := Lib.hid (HB0.out.trans (hb1.mono HB0.out.size))
  have HX1 := Lib.hid (HX0.out.below hb1 HX0.out.lt)
  have c10 := HX1.out.files
  have c11 := HX1.out.stopped
  clear hb1 hW0 c0 c1 c2 c3
  have hr := HR.out
  unfold sizeD at hr
  cases hff : findL dl n with
  | none =>
    obtain rfl : R = (0, false) := by rw [← hr, hff]
    clear hr
    go_wp2_with fail
    go_ret2
    exact ⟨rfl, HB1.out⟩
  | some f =>
    dsimp only at hr
    rw [hff] at hr
    cases ds with
    | true =>
      obtain rfl : R = (0, false) := by rw [← hr]; simp
      clear hr
      go_wp2_with fail
      go_ret2
      exact ⟨rfl, HB1.out⟩
    | false =>
      obtain rfl : R = (f.b.length, true) := by rw [← hr]; simp
      clear hr
      obtain ⟨blk, off, vbf, hpq, hblk, hvbf, x0, x1, x2⟩ := (HL.out.below (HB1.out.mono hB)).at_ (hkf f hff)
      subst hpq
      obtain ⟨p0, cap0, rfl, hcp1, hcp2⟩ := hvbf.shape
      have hkk := (List.getElem?_eq_some_iff.1 (hkf f hff)).1
      have i1 : (k : Int) < (dl.length : Int) := by omega
      clear hkf hvbf x0
      go_wp2_with fail
      go_ret2
      exact ⟨rfl, HB1.out⟩
set_option maxRecDepth 100000 in
set_option maxHeartbeats 4000000 in
theorem rdurable_any (B : Nat) (L : Value) (d : DiskD) (n : List UInt8) (w : World) (hL : FilesIn XB B w L d.L) (hB : B ≤ w.heap.size) (hl : d.L.length ≤ 1000000) :
    Calls Try.prog 38 #[diskV L d, .string ⟨n.toArray⟩] w fun e w' => e = .returned (.int .i64 (durableD d n : Int)) ∧ Below w.heap.size w w' := by
  obtain ⟨dl, dq, da, ds⟩ := d
  obtain ⟨p, cap, rfl, hlc, hcm⟩ := hL.shape
  dsimp only at hL hl hlc ⊢
  have HF := Lib.hid (fun W (h : Below w.heap.size w W) => find_any B (diskV (.slice p dl.length cap) (⟨dl, dq, da, ds⟩ : DiskD)) (⟨dl, dq, da, ds⟩ : DiskD) n W ⟨_, rfl, hL.below (h.mono hB)⟩ (Nat.le_trans hB h.size) (by show dl.length ≤ _; omega))
  have HL := Lib.hid hL
  obtain ⟨R, hR⟩ : ∃ R, durableD (⟨dl, dq, da, ds⟩ : DiskD) n = R := ⟨_, rfl⟩
  rw [hR]
  have HR := Lib.hid hR
  unfold diskV at HF
  dsimp only at HF
  obtain ⟨W0, hW0⟩ : ∃ W, w.alloc (.cells #[.slice p dl.length cap, .int .i64 dq, .int .i64 da, .bool ds] 29) = W := ⟨_, rfl⟩
  have HX0 := Lib.hid (show BoxAt W0 w.heap.size (.slice p dl.length cap) (⟨dl, dq, da, ds⟩ : DiskD) by rw [← hW0]; exact box_new w _ ⟨dl, dq, da, ds⟩)
  have HB0 := Lib.hid (show Below w.heap.size w W0 by rw [← hW0]; exact (Below.refl _ _).alloc (Nat.le_refl _) _)
  have c0 := HX0.out.files
  have c1 := HX0.out.quota
  have c2 := HX0.out.armed
  have c3 := HX0.out.stopped
  unfold diskV
  dsimp only
  obtain ⟨S, hS⟩ : ∃ S : ByteArray, (⟨n.toArray⟩ : ByteArray) = S := ⟨_, rfl⟩
  rw [hS] at HF
  rw [hS]
  clear hL hR hS
  go_enter Try.func38, Try.ntmps38
  go_wp2_with fail
  refine (HF.out W0 HB0.out).mono ?_
  rintro e w1 ⟨k, rfl, hkf, hkl, hb1⟩
  have HB1 := Lib.hid (HB0.out.trans (hb1.mono HB0.out.size))
  have HX1 := Lib.hid (HX0.out.below hb1 HX0.out.lt)
  have c10 := HX1.out.files
  have c11 := HX1.out.stopped
  clear hb1 hW0 c0 c1 c2 c3
  have hr := HR.out
  unfold durableD at hr
  dsimp only at hr
  cases hff : findL dl n with
  | none =>
    obtain rfl : R = 0 := by rw [← hr, hff]; rfl
    clear hr
    go_wp2_with fail
    go_ret
    exact ⟨rfl, HB1.out⟩
  | some f =>
    rw [hff] at hr
    obtain rfl : R = f.sure := by rw [← hr]; rfl
    clear hr
    obtain ⟨blk, off, vbf, hpq, hblk, hvbf, x0, x1, x2⟩ := (HL.out.below (HB1.out.mono hB)).at_ (hkf f hff)
    subst hpq
    have hkk := (List.getElem?_eq_some_iff.1 (hkf f hff)).1
    have i1 : (k : Int) < (dl.length : Int) := by omega
    clear hkf hvbf x0 x1
    go_wp2_with fail
    go_ret
    exact ⟨rfl, HB1.out⟩
end Go.Proofs.Ytljfpolcgegkpaa.DK
