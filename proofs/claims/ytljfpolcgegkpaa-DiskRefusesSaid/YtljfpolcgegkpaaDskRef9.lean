/-
  The reference's Read: what the plain lists say. Condition: few files.
-/
import Derived.Test.YtljfpolcgegkpaaDskRef8
set_option linter.unusedVariables false
namespace Go.Proofs.Ytljfpolcgegkpaa.DK
open Go.RowKit Go.Proofs.Ytljfpolcgegkpaa.MM
variable {XB : Nat → Prop}

/-- Read's answer. -/
def readD (d : DiskD) (n : List UInt8) (a m : Int) : List UInt8 × Int :=
  if ¬ namedL n = true then ([], 60) else if d.stopped = true then ([], 63)
  else match findL d.L n with
    | none => ([], 61)
    | some f => if a < 0 ∨ (f.b.length : Int) < a ∨ m < 0 then ([], 5) else ((f.b.drop a.toNat).take m.toNat, 0)
set_option maxRecDepth 100000 in
set_option maxHeartbeats 4000000 in
theorem rread_any (B : Nat) (L : Value) (d : DiskD) (n : List UInt8) (a m : Int) (w : World) (hL : FilesIn XB B w L d.L) (hB : B ≤ w.heap.size) (hl : d.L.length ≤ 1000000) (hn : n.length ≤ 1000000000) (hfl : ∀ g ∈ d.L, g.b.length ≤ 1000000000) (ha0 : -9223372036854775808 ≤ a) (ha1 : a ≤ 9223372036854775807) (hm0 : -9223372036854775808 ≤ m) (hm1 : m ≤ 9223372036854775807) :
    Calls Try.prog 32 #[diskV L d, .string ⟨n.toArray⟩, .int .i64 a, .int .i64 m] w fun e w' => ∃ v, e = .returned (.tuple #[v, .int .i64 (readD d n a m).2]) ∧ BIn B w' v (readD d n a m).1 ∧ Below w.heap.size w w' := by
  obtain ⟨dl, dq, da, ds⟩ := d
  obtain ⟨p, cap, rfl, hlc, hcm⟩ := hL.shape
  dsimp only at hL hl hlc hfl ⊢
  have HN := Lib.hid (fun W => named_any ⟨n.toArray⟩ n W rfl (by omega))
  have HF := Lib.hid (fun W (h : Below w.heap.size w W) => find_any B (diskV (.slice p dl.length cap) (⟨dl, dq, da, ds⟩ : DiskD)) (⟨dl, dq, da, ds⟩ : DiskD) n W ⟨_, rfl, hL.below (h.mono hB)⟩ (Nat.le_trans hB h.size) (by show dl.length ≤ _; omega))
  have HL := Lib.hid hL
  obtain ⟨R, hR⟩ : ∃ R, readD (⟨dl, dq, da, ds⟩ : DiskD) n a m = R := ⟨_, rfl⟩
  rw [hR]
  have HR := Lib.hid hR
  unfold diskV at HF
  dsimp only at HF
  obtain ⟨W0, hW0⟩ : ∃ W, w.alloc (.cells #[.slice p dl.length cap, .int .i64 dq, .int .i64 da, .bool ds] 29) = W := ⟨_, rfl⟩
  have HX0 := Lib.hid (show BoxAt W0 w.heap.size (.slice p dl.length cap) (⟨dl, dq, da, ds⟩ : DiskD) by rw [← hW0]; exact box_new w _ ⟨dl, dq, da, ds⟩)
  have HB0 := Lib.hid (show Below w.heap.size w W0 by rw [← hW0]; exact (Below.refl _ _).alloc (Nat.le_refl _) _)
  unfold diskV
  dsimp only
  obtain ⟨S, hS⟩ : ∃ S : ByteArray, (⟨n.toArray⟩ : ByteArray) = S := ⟨_, rfl⟩
  rw [hS] at HF HN
  rw [hS]
  clear hL hR hS
  go_enter Try.func32, Try.ntmps32
  go_wp2_with fail
  refine (HN.out W0).mono ?_
  rintro e w1 ⟨rfl, hb1⟩
  have HB1 := Lib.hid (HB0.out.trans (hb1.mono HB0.out.size))
  have HX1 := Lib.hid (HX0.out.below hb1 HX0.out.lt)
  have c10 := HX1.out.files
  have c11 := HX1.out.quota
  have c12 := HX1.out.armed
  have c13 := HX1.out.stopped
  clear hb1 hW0
  have hr := HR.out
  unfold readD at hr
  dsimp only at hr
  cases hnm : namedL n with
  | false =>
    obtain rfl : R = ([], 60) := by rw [← hr, hnm]; simp
    clear hr
    go_wp2_with fail
    go_ret2
    exact ⟨_, rfl, BIn.nil_ _ _, HB1.out⟩
  | true =>
    rw [hnm] at hr
    cases ds with
    | true =>
      obtain rfl : R = ([], 63) := by rw [← hr]; simp
      clear hr
      go_wp2_with fail
      go_ret2
      exact ⟨_, rfl, BIn.nil_ _ _, HB1.out⟩
    | false =>
      rw [if_neg (by simp), if_neg (by simp)] at hr
      have HR2 := Lib.hid hr
      clear hr
      go_wp2_with fail
      refine (HF.out w1 HB1.out).mono ?_
      rintro e w2 ⟨k, rfl, hkf, hkl, hb2⟩
      have HB2 := Lib.hid (HB1.out.trans (hb2.mono HB1.out.size))
      have HX2 := Lib.hid (HX1.out.below hb2 HX1.out.lt)
      have c20 := HX2.out.files
      clear hb2 c10 c11 c12 c13
      have hr := HR2.out
      cases hff : findL dl n with
      | none =>
        obtain rfl : R = ([], 61) := by rw [← hr, hff]
        clear hr
        go_wp2_with fail
        go_ret2
        exact ⟨_, rfl, BIn.nil_ _ _, HB2.out⟩
      | some f =>
        rw [hff] at hr
        dsimp only at hr
        obtain ⟨blk, off, vbf, hpq, hblk, hvbf, x0, x1, x2⟩ := (HL.out.below (HB2.out.mono hB)).at_ (hkf f hff)
        subst hpq
        obtain ⟨p0, cap0, rfl, hcp1, hcp2⟩ := hvbf.shape
        have hkk := (List.getElem?_eq_some_iff.1 (hkf f hff)).1
        have hfb := hfl f (find_mem hff).1
        have i1 : (k : Int) < (dl.length : Int) := by omega
        have HV := Lib.hid hvbf
        have HR3 := Lib.hid hr
        clear hkf hvbf x0 x2 hfl hr
        obtain h | h | h | h : a < 0 ∨ (0 ≤ a ∧ (f.b.length : Int) < a) ∨ (0 ≤ a ∧ a ≤ (f.b.length : Int) ∧ m < 0) ∨ (0 ≤ a ∧ a ≤ (f.b.length : Int) ∧ 0 ≤ m) := by omega
        · obtain rfl : R = ([], 5) := by rw [← HR3.out, if_pos (.inl h)]
          have t1 : decide (a < 0) = true := by rw [decide_eq_true_eq]; omega
          go_wp2_with fail
          go_ret2
          exact ⟨_, rfl, BIn.nil_ _ _, HB2.out⟩
        · obtain rfl : R = ([], 5) := by rw [← HR3.out, if_pos (.inr (.inl h.2))]
          have t1 : decide (a < 0) = false := by rw [decide_eq_false_iff_not]; omega
          have t2 : decide (a > (f.b.length : Int)) = true := by rw [decide_eq_true_eq]; omega
          go_wp2_with fail
          go_ret2
          exact ⟨_, rfl, BIn.nil_ _ _, HB2.out⟩
        · obtain rfl : R = ([], 5) := by rw [← HR3.out, if_pos (.inr (.inr h.2.2))]
          have t1 : decide (a < 0) = false := by rw [decide_eq_false_iff_not]; omega
          have t2 : decide (a > (f.b.length : Int)) = false := by rw [decide_eq_false_iff_not]; omega
          have t3 : decide (m < 0) = true := by rw [decide_eq_true_eq]; omega
          go_wp2_with fail
          go_ret2
          exact ⟨_, rfl, BIn.nil_ _ _, HB2.out⟩
        · obtain ⟨i, rfl⟩ : ∃ i : Nat, a = (i : Int) := ⟨a.toNat, by omega⟩
          obtain ⟨j, rfl⟩ : ∃ j : Nat, m = (j : Int) := ⟨m.toNat, by omega⟩
          have hi : i ≤ f.b.length := by omega
          obtain ⟨q, hq⟩ : ∃ q, min j (f.b.length - i) = q := ⟨_, rfl⟩
          obtain rfl : R = ((f.b.drop i).take q, 0) := by
            rw [← HR3.out, if_neg (by omega), ← hq]
            simp only [Int.toNat_natCast]
            congr 1
            rw [List.take_eq_take_iff, List.length_drop]
            omega
          have hqm : (if (f.b.length - i : Nat) < j then ((f.b.length - i : Nat) : Int) else (j : Int)) = (q : Int) := by rw [← hq]; split <;> omega
          have hq1 : q ≤ f.b.length - i := by omega
          have hD := BIn.drop3 HV.out.bin i hi
          have HD1 := Lib.hid (fun h => (hD.1 h).take q hq1)
          have HD2 := Lib.hid (fun h => (hD.2 h).take q hq1)
          have hwr : IntKind.i64.wrap ((f.b.length : Int) - (i : Int)) = ((f.b.length - i : Nat) : Int) := by rw [IntKind.wrap_i64]; omega
          have t1 : decide ((i : Int) < 0) = false := by rw [decide_eq_false_iff_not]; omega
          have t2 : decide ((i : Int) > (f.b.length : Int)) = false := by rw [decide_eq_false_iff_not]; omega
          have t3 : decide ((j : Int) < 0) = false := by rw [decide_eq_false_iff_not]; omega
          clear hq hD h HR HR2 HR3
          go_wp2_with fail
          case inl =>
            go_ret2
            exact ⟨.slice p0 q 0, rfl, HD1.out (by assumption), HB2.out⟩
          case inr =>
            go_ret2
            exact ⟨.slice (p0.map (fun x => x.add i)) q (cap0 - i), rfl, HD2.out (by assumption), HB2.out⟩
end Go.Proofs.Ytljfpolcgegkpaa.DK
