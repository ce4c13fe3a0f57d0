/-
  The law's own example. No condition.
-/
import Derived.Test.YtgacfihidpijeaaZE32
import Derived.Test.YtgacfihidpijeaaZE4
set_option linter.unusedVariables false
namespace Go.Proofs.Ytgacfihidpijeaa.EV
open Go Go.RowKit Go.Proofs.Ytgacfihidpijeaa.MM Go.Proofs.Ytgacfihidpijeaa.EM

def exA : Ev := (0, [([109, 115, 103], [97, 32, 98, 32, 97]), ([109, 115, 103], [98])])
def exT : List Trm := [([109, 115, 103, 58, 97], [0, 2]), ([109, 115, 103, 58, 98], [1, 67])]
theorem ex_terms : termsE exA = exT := by decide +kernel
theorem ex_bad : checkE (0, [([], [])]) = 100 := by decide +kernel
/-- A literal of fields. -/
theorem flds_lit (w : World) (fs : List Fld) (hl : fs.length ≤ maxLen) : RAny fldC (w.alloc (.cells (fs.flatMap fun f => [.string ⟨f.1.toArray⟩, .string ⟨f.2.toArray⟩]).toArray 68)) (.slice (some ⟨w.heap.size, 0, none⟩) fs.length fs.length) fs := by
  have := ron_lit (C := fldC) (S := fun _ => True) (e := 68) w (fs.map fun f => [.string ⟨f.1.toArray⟩, .string ⟨f.2.toArray⟩]) fs hl ⟨by simp, fun i hi hi' => by rw [List.getElem_map]; exact fld_on.2 rfl⟩
  rw [← List.flatMap_def] at this
  exact this.any
/-- A literal of numbers. -/
theorem ints_lit (w : World) (zs : List Int) (hl : zs.length ≤ maxLen) : RAny cInt (w.alloc (.cells (zs.map fun z => Value.int .i64 z).toArray 3)) (.slice (some ⟨w.heap.size, 0, none⟩) zs.length zs.length) zs := by
  have := ron_lit (C := cInt) (S := fun _ => True) (e := 3) w (zs.map fun z => [.int .i64 z]) zs hl ⟨by simp, fun i hi hi' => by rw [List.getElem_map]; rfl⟩
  rw [flat_singles] at this
  exact this.any
/-- The k-th term: its text, its places. -/
theorem trm_at {S : Nat → Prop} {w : World} {p : Option Addr} {n cap : Nat} {ts : List Trm} (h : ROn trmC S w (.slice p n cap) ts) {k : Nat} (hk : k < ts.length) :
    ∃ b off v, p = some ⟨b, off, none⟩ ∧ b < w.heap.size ∧ S b ∧ w.cell? ⟨b, off + k * 2, none⟩ = some (.string ⟨ts[k].1.toArray⟩) ∧ w.cell? ⟨b, off + k * 2 + 1, none⟩ = some v ∧ ROn cInt S w v ts[k].2 := by
  obtain ⟨b, off, vs, hp, hlt, hS, hon, hc⟩ := h.at_ hk
  rw [trm_on] at hon
  obtain ⟨v, rfl, hr⟩ := hon
  exact ⟨b, off, v, hp, hlt, hS, hc 0 _ rfl, hc 1 _ rfl, hr⟩

set_option maxRecDepth 100000 in
set_option maxHeartbeats 2000000 in
theorem awake_any (w : World) : Calls Try.prog 18 #[] w fun e w' => e = .returned (.bool true) ∧ Below w.heap.size w w' := by
  have hb0 : Below w.heap.size w (w.alloc (.cells #[.string ⟨#[109, 115, 103]⟩, .string ⟨#[97, 32, 98, 32, 97]⟩, .string ⟨#[109, 115, 103]⟩, .string ⟨#[98]⟩] 68)) := (Below.refl _ _).alloc (Nat.le_refl _) _
  have hr0 := flds_lit w exA.2 (by unfold maxLen exA; simp)
  have hT := terms_any 0 _ _ _ hr0
  rw [show termsE (0, exA.2) = exT from ex_terms] at hT
  have HT := Lib.hid hT
  have HB0 := Lib.hid hb0
  clear hb0 hr0 hT
  go_enter Try.func18, Try.ntmps18
  go_wp2_with fail
  refine HT.out.mono ?_
  rintro e w2 ⟨u, rfl, hu, hb2⟩
  obtain ⟨p, cap, rfl, hcl, hcm, _⟩ := hu.shape
  obtain ⟨b, off, v0, rfl, hbl, _, c0, c1, h0⟩ := trm_at hu (k := 0) (by decide)
  obtain ⟨b', off', v1, hp, _, _, c2, c3, h1⟩ := trm_at hu (k := 1) (by decide)
  simp only [Option.some.injEq, Addr.mk.injEq] at hp
  obtain ⟨rfl, rfl, _⟩ := hp
  change RAny cInt w2 v0 [0, 2] at h0
  change RAny cInt w2 v1 [1, 67] at h1
  obtain ⟨p0, cp0, rfl, _⟩ := ROn.shape h0
  obtain ⟨p1, cp1, rfl, _⟩ := ROn.shape h1
  change w2.cell? ⟨b, off + 0 * 2, none⟩ = some (.string ⟨#[109, 115, 103, 58, 97]⟩) at c0
  change w2.cell? ⟨b, off + 1 * 2, none⟩ = some (.string ⟨#[109, 115, 103, 58, 98]⟩) at c2
  rw [Nat.zero_mul, Nat.add_zero] at c0
  rw [Nat.zero_mul, Nat.add_zero] at c1
  rw [Nat.one_mul] at c2 c3
  change 2 ≤ cap at hcl
  have HB2 := Lib.hid (grow HB0.out hb2)
  have H0 := Lib.hid h0
  have H1 := Lib.hid h1
  clear hu hb2 h0 h1 HT
  have ha0 : Below w2.heap.size w2 (w2.alloc (.cells #[.int .i64 0, .int .i64 2] 3)) := (Below.refl _ _).alloc (Nat.le_refl _) _
  have hS0 := sameints_any _ _ [0, 2] [0, 2] _ (H0.out.below ha0) (ints_lit w2 [0, 2] (by unfold maxLen; simp))
  rw [show decide ([(0 : Int), 2] = [0, 2]) = true from by decide] at hS0
  have HS0 := Lib.hid hS0
  have HA0 := Lib.hid ha0
  clear ha0 hS0 H0
  go_wp2_with fail
  refine HS0.out.mono ?_
  rintro e w3 ⟨rfl, hb3⟩
  have hb23 := grow HA0.out hb3
  have d2 := (hb23.cell (p := ⟨b, off + 2, none⟩) hbl).trans c2
  have d3 := (hb23.cell (p := ⟨b, off + 2 + 1, none⟩) hbl).trans c3
  have h13 := H1.out.below hb23
  have ha1 : Below w3.heap.size w3 (w3.alloc (.cells #[.int .i64 1, .int .i64 67] 3)) := (Below.refl _ _).alloc (Nat.le_refl _) _
  have hS1 := sameints_any _ _ [1, 67] [1, 67] _ (h13.below ha1) (ints_lit w3 [1, 67] (by unfold maxLen; simp))
  rw [show decide ([(1 : Int), 67] = [1, 67]) = true from by decide] at hS1
  have HS1 := Lib.hid hS1
  have HB3 := Lib.hid (grow HB2.out hb23)
  have HA1 := Lib.hid ha1
  clear ha1 hS1 h13 hb3 hb23 HS0 H1 HA0 HB2 c0 c1 c2 c3
  go_wp2_with fail
  refine HS1.out.mono ?_
  rintro e w4 ⟨rfl, hb4⟩
  have HB4 := Lib.hid (grow HB3.out (grow HA1.out hb4))
  have ha4 : Below w4.heap.size w4 (w4.alloc (.cells #[.string ⟨#[]⟩, .string ⟨#[]⟩] 68)) := (Below.refl _ _).alloc (Nat.le_refl _) _
  have hC := check_any 0 _ _ _ (flds_lit w4 [([], [])] (by unfold maxLen; simp))
  rw [ex_bad] at hC
  have HC := Lib.hid hC
  have HB5 := Lib.hid (grow HB4.out ha4)
  clear hb4 ha4 hC HS1 HB3 d2 d3
  go_wp2_with fail
  refine HC.out.mono ?_
  rintro e w5 ⟨rfl, hb5⟩
  have HB6 := Lib.hid (grow HB5.out hb5)
  clear hb5 HC HB5 HB4
  go_wp2_with fail
  go_ret
  exact ⟨rfl, HB6.out⟩
end Go.Proofs.Ytgacfihidpijeaa.EV
