/-
  The law FrameTurned returns true. Condition: the arguments read as data.
-/
import Derived.Test.YtfnohcmoaooghaaFrmAwake
import Derived.Test.YtfnohcmoaooghaaOwnSet
set_option linter.unusedVariables false
namespace Go.Proofs.Ytfnohcmoaooghaa.FG
open Go.RowKit Go.Proofs.Ytfnohcmoaooghaa.MM Go.Proofs.Ytfnohcmoaooghaa.VM Go.Proofs.Ytfnohcmoaooghaa.CM Go.Proofs.Ytfnohcmoaooghaa.FM Go.Proofs.Ytfnohcmoaooghaa.VP Go.Proofs.Ytfnohcmoaooghaa.CR Go.Proofs.Ytfnohcmoaooghaa.FP Go.Proofs.Ytfnohcmoaooghaa.VG

theorem byte_of {y : Nat} (h : y < 256) : ∃ c : UInt8, c.toNat = y := ⟨UInt8.ofNat y, by simp; omega⟩
set_option maxRecDepth 100000 in
set_option maxHeartbeats 4000000 in
theorem turned_walk (v0 v3 : Value) (m r0 : List UInt8) (at_ y : Nat) (w : World) (h0 : BRow w v0 m) (h3 : BRow w v3 r0) (hat : at_ < 65536) (hy : y < 256) :
    Calls Try.prog 7 #[v0, .int .u16 at_, .int .u8 y, v3] w fun e w' => e = .returned (.bool true) ∧ Below w.heap.size w w' := by
  have k0 := Lib.hid (cut_any v0 m w h0)
  have k1 := Lib.hid (fun W (a : BRow W v3 r0) => cut_any v3 r0 W a)
  unfold CutLeft at k0 k1
  have hdl : (m.take 400).length ≤ 400 := by rw [List.length_take]; omega
  have hrl : (r0.take 400).length ≤ 400 := by rw [List.length_take]; omega
  generalize m.take 400 = d at *
  generalize r0.take 400 = r at *
  have hfb := frameL_bounds d
  have hfl := frameL_length d
  have hsd := sizeL_frame (p := d) (by omega)
  have K2 := Lib.hid (fun u1 W (b : BRow W u1 d) => List.nil_append (frameL d) ▸ put_fr (.slice none 0 0) u1 [] d W (BRow.nil_ W) b (by omega) (by simp; omega))
  have k8 := fun W => rsize_fr (d.length : Int) W (by omega) (by omega)
  rw [hsd] at k8
  have K8 := Lib.hid k8
  have HT := Lib.hid (fun (by_ c : UInt8) (hb : by_ ≠ 0) (k : Nat) (hk : (bytesL d.length).length ≤ k) (hc : (frameL d)[k]? = some c) => getR_turned (p := d) (by omega) hb hk hc r)
  have hhl := bytesL_length d.length
  generalize hFd : frameL d = X at *
  generalize hH : (bytesL d.length).length = H at *
  have HV3 := Lib.hid h3
  have hsub : (X.length : Int) - (d.length : Int) = (H : Int) + 4 := by omega
  have hsum : (H : Int) + 4 + (d.length : Int) = (X.length : Int) := by omega
  have hD : (X.length : Int) - (H : Int) = ((d.length + 4 : Nat) : Int) := by omega
  have hD4 : 4 ≤ d.length + 4 := by omega
  generalize d.length + 4 = D at *
  obtain ⟨q, hq⟩ : ∃ q : Nat, at_ % D = q := ⟨_, rfl⟩
  have hqD : q < D := by rw [← hq]; exact Nat.mod_lt _ (by omega)
  have hqi : (at_ : Int) % (D : Int) = (q : Int) := by rw [← hq]; rfl
  have hkX : H + q < X.length := by omega
  have hX0 : X.length ≠ 0 := by omega
  have hX1 : X.length ≤ 1000 := by omega
  obtain ⟨c, hc⟩ : ∃ c, X[H + q]? = some c := ⟨_, List.getElem?_eq_getElem hkX⟩
  obtain ⟨z8, hz8⟩ := byte_of hy
  have hx := u8_xor_nat c.toNat z8.toNat c.toNat_lt z8.toNat_lt
  rw [← toNat_xor, hz8] at hx
  have HC := Lib.hid hc
  have HQ := Lib.hid hqi
  have hn := fun hb : z8 ≠ 0 => HT.out z8 c hb (H + q) (by omega) hc
  have HN := Lib.hid hn
  generalize c ^^^ z8 = x8 at *
  have hl0 : ([] : List UInt8).length + X.length ≤ 140737488355328 := by rw [List.length_nil]; omega
  have hl1 : (X.set (H + q) x8).length + r.length ≤ 140737488355328 := by rw [List.length_set]; omega
  clear h0 h3 hsd k8 hFd hH hfl hfb hq hqi hc hn
  go_enter Try.func7, Try.ntmps7
  go_wp2_with fail
  refine k0.out.mono ?_
  rintro e w0 ⟨u1, rfl, hu1, rfl⟩
  obtain ⟨p1, cap1, rfl, _, _⟩ := hu1.shape
  have HU1 := Lib.hid hu1
  clear hu1 k0
  go_wp2_with fail
  refine (K2.out _ _ HU1.out).mono ?_
  rintro e w1 ⟨x1, rfl, hx1, b1⟩
  obtain ⟨px, capx, rfl, _, _⟩ := hx1.brow.shape
  have HX1 := Lib.hid hx1.brow
  clear hx1 K2
  go_wp2_with fail
  refine (K8.out _).mono ?_
  rintro e w2 ⟨rfl, b2⟩
  have c2 := grow b1 b2
  by_cases hy0 : y = 0
  · have t1 : ((y : Int) == 0) = true := by simp; omega
    go_wp2_with fail
    refine (awake_any _).mono ?_
    rintro e w7 ⟨rfl, b7⟩
    go_wp2_with fail
    go_ret
    exact ⟨rfl, grow c2 b7⟩
  · have t1 : ((y : Int) == 0) = false := by simp; omega
    have hz0 : z8 ≠ 0 := fun h => hy0 (by rw [← hz8, h]; rfl)
    have HX2 := Lib.hid (HX1.out.below b2)
    have HE := Lib.hid (own_empty w2 w.heap.size c2.size)
    have hbe : Below w2.heap.size w2 (w2.alloc (.cells #[] 5)) := (Below.refl _ _).alloc (Nat.le_refl _) _
    have c3 := grow c2 hbe
    have hsz3 := c3.size
    clear b1 b2 c2
    go_wp2_with (at_builtin; refine wpList_append_bytes rfl _ _ rfl w.heap.size _ [] rfl HE.out _ X rfl (HX2.out.below hbe) hl0 hsz3 ?_)
    intro v4 w4 hown4 b4
    have hown4 : OwnB w.heap.size w4 v4 X := hown4
    have c4 := c3.trans b4
    obtain ⟨g, capx, rfl, hgB, hcx, hmx⟩ := hown4.shape hX0
    unfold maxLen at hmx
    have hcell := hown4.cell HC.out
    have hfree := hown4.free (H + q)
    have hset := hown4.set (j := H + q) x8
    have HS := Lib.hid hset
    have c5 := c4.setCell (p := ⟨g, H + q, none⟩) hgB (.int .u8 (x8.toNat : Int))
    clear hown4 hset HE hbe b4 HX1 HX2
    have j1 : (H : Int) + q < X.length := by omega
    have j2 : (0 : Int) ≤ (H : Int) + q := by omega
    have j3 : ((H : Int) + q).toNat = H + q := by omega
    have hqi := HQ.out
    have HN1 := Lib.hid (HN.out hz0)
    clear HN HT HC HQ hsub hsum
    go_wp2_with fail
    obtain ⟨W, hW⟩ : ∃ W, w4.setCell ⟨g, H + q, none⟩ (.int .u8 (x8.toNat : Int)) = W := ⟨_, rfl⟩
    rw [hW] at HS c5
    rw [hW]
    clear hW hcell hfree hqi
    refine (k1.out W (HV3.out.below c5)).mono ?_
    rintro e w6 ⟨u3, rfl, hu3, rfl⟩
    have HU3 := Lib.hid hu3
    have hszW := c5.size
    have HS2 := Lib.hid (show OwnB w.heap.size W (.slice (some ⟨g, 0, none⟩) X.length capx) (X.set (H + q) x8) from HS.out)
    clear hu3
    go_wp2_with (at_builtin; refine wpList_append_bytes rfl _ _ rfl w.heap.size _ (X.set (H + q) x8) rfl HS2.out _ r rfl HU3.out hl1 hszW ?_)
    intro v7 w7 hown7 b7
    have c7 := c5.trans b7
    have HG := Lib.hid (get_fr w7.heap.size v7 _ w7 hown7.brow (Nat.le_refl _))
    rw [restR_err HN1.out (by omega), HN1.out] at HG
    clear hown7 b7
    go_wp2_with fail
    refine HG.out.mono ?_
    rintro e w8 ⟨vp, vr, rfl, _, _, b8⟩
    have c8 := grow c7 b8
    go_wp2_with fail
    refine (awake_any _).mono ?_
    rintro e w9 ⟨rfl, b9⟩
    go_wp2_with fail
    go_ret
    exact ⟨rfl, grow c8 b9⟩
end Go.Proofs.Ytfnohcmoaooghaa.FG
