/-
  The law FrameTorn returns true. Condition: the arguments read as data.
-/
import Derived.Test.YtfnohcmoaooghaaFrmAwake
import Derived.Test.YtfnohcmoaooghaaFrmSplit
import Derived.Test.YtfnohcmoaooghaaFrmRows
set_option linter.unusedVariables false
namespace Go.Proofs.Ytfnohcmoaooghaa.FG
open Go.RowKit Go.Proofs.Ytfnohcmoaooghaa.MM Go.Proofs.Ytfnohcmoaooghaa.VM Go.Proofs.Ytfnohcmoaooghaa.CM Go.Proofs.Ytfnohcmoaooghaa.FM Go.Proofs.Ytfnohcmoaooghaa.VP Go.Proofs.Ytfnohcmoaooghaa.CR Go.Proofs.Ytfnohcmoaooghaa.FP Go.Proofs.Ytfnohcmoaooghaa.VG

theorem PRow.take {w : World} {p : Option Addr} {n cap : Nat} {ls : List (List UInt8)} (h : PRow w (.slice p n cap) ls) {k : Nat} (hk : k ≤ ls.length) : PRow w (.slice p k cap) (ls.take k) := by
  obtain ⟨xs, hr, hl, hx⟩ := h
  have hr' := hr
  obtain ⟨p', cap', hv, _⟩ := hr'
  simp only [Value.slice.injEq] at hv
  obtain ⟨rfl, hn, rfl⟩ := hv
  refine ⟨xs.take k, RowIn.take hr k (by omega), by rw [List.length_take, List.length_take]; omega, fun i hi => ?_⟩
  rw [List.length_take] at hi
  obtain ⟨x, h1, h2⟩ := hx i (by omega)
  exact ⟨x, by rw [List.getElem?_take, if_pos (by omega)]; exact h1, by rw [List.getElem_take]; exact h2⟩
theorem few_frames {gs : List (List UInt8)} (h : ∀ p ∈ gs, p.length ≤ 200) : (framesL gs).length ≤ 214 * gs.length := by
  induction gs with
  | nil => simp [framesL]
  | cons p gs ih =>
    have h1 := ih (fun q hq => h q (by simp [hq]))
    have h2 := (frameL_bounds p).2
    have h3 := h p (by simp)
    rw [framesL_cons, List.length_append, List.length_cons]
    omega

set_option maxRecDepth 100000 in
set_option maxHeartbeats 4000000 in
theorem torn_walk (v0 : Value) (ls : List (List UInt8)) (at_ : Nat) (w : World) (h0 : PRow w v0 ls) (hat : at_ < 65536) :
    Calls Try.prog 6 #[v0, .int .u16 at_] w fun e w' => e = .returned (.bool true) ∧ Below w.heap.size w w' := by
  have k0 := Lib.hid (few_any v0 ls w h0)
  have hfl := fewL_len ls
  have hfe := fun p (h : p ∈ fewL ls) => fewL_each h
  generalize fewL ls = fs at *
  have hall : ∀ p ∈ fs, p.length ≤ 16777216 := fun p h => by have := hfe p h; omega
  have hfm : (framesL fs).length ≤ 2000 := by have := few_frames hfe; omega
  have K2 := Lib.hid (fun u W (a : PRow W u fs) => join_fr u fs W a hall (by omega))
  obtain ⟨K, hKK⟩ : ∃ K : Nat, at_ % ((framesL fs).length + 1) = K := ⟨_, rfl⟩
  have hKl : K ≤ (framesL fs).length := by have := Nat.mod_lt at_ (show 0 < (framesL fs).length + 1 by omega); omega
  obtain ⟨j, er, hj, hs, hnK, her, hiff, hmore⟩ := splits_torn fs K hall hKl
  have hjl : (fs.take j).length = j := by rw [List.length_take]; omega
  have HHF := Lib.hid (fun i => framesL_take fs i)
  have hbnd := framesL_take fs j
  have HE := Lib.hid hall
  have K3 := Lib.hid (fun u W (a : BRow W u ((framesL fs).take K)) => split_any u _ W a (fs.take j) _ er hs (by rw [List.length_take]; omega))
  have hmod : (at_ : Int) % (((framesL fs).length : Int) + 1) = (K : Int) := by rw [← hKK]; rfl
  have HMORE := Lib.hid hmore
  obtain ⟨N, hN⟩ : ∃ N, (framesL (fs.take j)).length = N := ⟨_, rfl⟩
  rw [hN] at K3 hnK hiff hbnd HMORE
  have HN := Lib.hid hN
  have hjl2 := hjl
  have hXl : ∃ X, framesL fs = X := ⟨_, rfl⟩
  obtain ⟨X, hX⟩ := hXl
  rw [hX] at K2 K3 hKl hmod hfm hbnd
  have HX := Lib.hid hX
  have HFl := Lib.hid hfl
  clear h0 hKK hs hfe hall hmore hN hX hjl2
  go_enter Try.func6, Try.ntmps6
  go_wp2_with fail
  refine k0.out.mono ?_
  rintro e w1 ⟨u0, rfl, hu0, b1⟩
  obtain ⟨p0, cap0, rfl, hpc, hpm⟩ := hu0.shape
  unfold maxLen at hpm
  have HU0 := Lib.hid hu0
  clear hu0 k0
  go_wp2_with fail
  refine (K2.out _ _ HU0.out).mono ?_
  rintro e w2 ⟨x1, rfl, hx1, b2⟩
  obtain ⟨px, capx, rfl, hxc, hxm⟩ := hx1.brow.shape
  unfold maxLen at hxm
  have HX1 := Lib.hid (hx1.brow.take K hKl)
  have HU0a := Lib.hid (HU0.out.below b2)
  have c2 := grow b1 b2
  have i1 : (K : Int) ≤ (capx : Int) := by omega
  clear hx1 K2 HU0
  go_wp2_with fail
  refine (K3.out _ _ HX1.out).mono ?_
  rintro e w3 ⟨x3, rfl, hx3, b3⟩
  obtain ⟨p3, cap3, rfl, h3c, h3m⟩ := hx3.shape
  unfold maxLen at h3m
  have h3c : (fs.take j).length ≤ cap3 := h3c
  rw [hjl] at hx3 h3c
  have HX3 := Lib.hid hx3
  have HU0b := Lib.hid (HU0a.out.below b3)
  have HT := Lib.hid (PRow.take HU0b.out hj)
  have c3 := grow c2 b3
  clear hx3 K3 HU0a
  have t1 : decide (((fs.take j).length : Int) > (fs.length : Int)) = false := by simp; omega
  have i2 : ((fs.take j).length : Int) ≤ (cap0 : Int) := by rw [hjl]; omega
  have t2 : decide ((N : Int) > (K : Int)) = false := by simp; omega
  rw [hjl] at t1 i2
  have t1b : decide (fs.length < j) = false := by simp; omega
  have t2b : decide (K < N) = false := by simp; omega
  go_wp2_with fail
  refine (same_any _ _ _ _ HX3.out HT.out).mono ?_
  rintro e w4 ⟨rfl, b4⟩
  have HU0c := Lib.hid (HU0b.out.below b4)
  have c4 := grow c3 b4
  clear HX3 HT HX1
  go_wp2_with fail
  go_loopw [11, 12] (fun s i wr => ∃ k z : Nat, k ≤ j ∧ i = .int .i64 k ∧ s = .int .i64 z ∧ z = (framesL (fs.take k)).length ∧ Hid (Below w4.heap.size w4 wr)) (fun _ i _ => j - (intOf i).toNat)
  case atStart => exact ⟨0, 0, by omega, rfl, rfl, by simp [framesL], Lib.hid (Below.refl _ _)⟩
  case round =>
    obtain ⟨k, z, hk, rfl, rfl, hz, HB⟩ := hrel
    have hpos : (0 : Int) ≤ (z : Int) := by omega
    have htk := HHF.out k
    by_cases hlt : k < j
    · obtain ⟨b, off, x, rfl, hcell, hx⟩ := (HU0c.out.below HB.out).at_ (k := k) (by omega)
      have hkf : k < fs.length := by omega
      have hpl := HE.out fs[k] (List.getElem_mem hkf)
      have hsn := framesL_snoc fs hkf
      have htk1 := HHF.out (k + 1)
      rw [hsn, List.length_append, HX.out] at htk1
      have hsz := sizeL_frame hpl
      have hK := fun W => rsize_fr (fs[k].length : Int) W (by omega) (by omega)
      rw [hsz] at hK
      have hz2 : z + (frameL fs[k]).length = (framesL (fs.take (k + 1))).length := by rw [hsn, List.length_append]; omega
      have hz3 : z + (frameL fs[k]).length ≤ 2000 := by omega
      generalize fs[k] = y at *
      obtain ⟨p2, cap2, rfl, hlc2, hcm2⟩ := hx.shape
      unfold maxLen at hcm2
      generalize (frameL y).length = F at *
      have HK := Lib.hid hK
      have HZ := Lib.hid hz2
      clear hK hx hsn hz2 hz htk htk1 hsz
      go_wp2_with fail
      refine (HK.out _).mono ?_
      rintro e w5 ⟨rfl, b5⟩
      have HB5 := Lib.hid (grow HB.out b5)
      clear b5
      go_wp2_with fail
      go_roundw
      case rel => exact ⟨k + 1, z + F, by omega, by go_num, by go_num, HZ.out, HB5⟩
      case measure => simp [intOf]; omega
    · obtain rfl : k = j := by omega
      rw [HN.out] at hz htk
      subst hz
      clear htk hlt hk
      have c5 := grow c4 HB.out
      by_cases hjf : k < fs.length
      · obtain ⟨b, off, x, rfl, hcell, hx⟩ := (HU0c.out.below HB.out).at_ hjf
        have hpl := HE.out fs[k] (List.getElem_mem hjf)
        have hm := HMORE.out hjf
        have hsz := sizeL_frame hpl
        have hfb := frameL_bounds fs[k]
        have hK := fun W => rsize_fr (fs[k].length : Int) W (by omega) (by omega)
        rw [hsz] at hK
        generalize fs[k] = y at *
        obtain ⟨p2, cap2, rfl, hlc2, hcm2⟩ := hx.shape
        unfold maxLen at hcm2
        generalize (frameL y).length = F at *
        have HK := Lib.hid hK
        have t3 : decide ((k : Int) < (fs.length : Int)) = true := by simp; omega
        have t4 : decide ((z : Int) + (F : Int) ≤ (K : Int)) = false := by simp; omega
        clear hK hx hsz
        go_wp2_with fail
        refine (HK.out _).mono ?_
        rintro e w5 ⟨rfl, b5⟩
        have c6 := grow c5 b5
        clear b5
        rcases her with rfl | rfl
        · obtain rfl : z = K := hiff.1 rfl
          go_wp2_with fail
          refine (awake_any _).mono ?_
          rintro e w7 ⟨rfl, b7⟩
          go_wp2_with fail
          go_ret
          exact ⟨rfl, grow c6 b7⟩
        · have hne : ¬ z = K := fun h => by have := hiff.2 h; omega
          have t5 : ((z : Int) == (K : Int)) = false := by rw [beq_eq_false_iff_ne]; omega
          go_wp2_with fail
          refine (awake_any _).mono ?_
          rintro e w7 ⟨rfl, b7⟩
          go_wp2_with fail
          go_ret
          exact ⟨rfl, grow c6 b7⟩
      · have t3 : decide ((k : Int) < (fs.length : Int)) = false := by simp; omega
        rcases her with rfl | rfl
        · obtain rfl : z = K := hiff.1 rfl
          go_wp2_with fail
          refine (awake_any _).mono ?_
          rintro e w7 ⟨rfl, b7⟩
          go_wp2_with fail
          go_ret
          exact ⟨rfl, grow c5 b7⟩
        · have hne : ¬ z = K := fun h => by have := hiff.2 h; omega
          have t5 : ((z : Int) == (K : Int)) = false := by rw [beq_eq_false_iff_ne]; omega
          go_wp2_with fail
          refine (awake_any _).mono ?_
          rintro e w7 ⟨rfl, b7⟩
          go_wp2_with fail
          go_ret
          exact ⟨rfl, grow c5 b7⟩
end Go.Proofs.Ytfnohcmoaooghaa.FG
