/-
  The code's Get. Condition: entries that may be.
-/
import Derived.Test.YtklngjnjnkocmaaZA40
set_option linter.unusedVariables false
namespace Go.Proofs.Ytklngjnjnkocmaa.DT
open Go Go.RowKit Go.Proofs.Ytklngjnjnkocmaa.MM Go.Proofs.Ytklngjnjnkocmaa.DM
open Go.Proofs.Ytklngjnjnkocmaa.EM (lessL less_bytes)

def pickT (u : List UInt8) : Option Ent → Option Ent
  | none => none
  | some x => if x.1 = u then some x else none

set_option maxRecDepth 100000 in
set_option maxHeartbeats 1000000 in
theorem get_any (p : Option Addr) (l : List Ent) (u : List UInt8) (w : World) (hp : DictP (fun _ => True) w p l) (hl : areD l = true) : Calls Try.prog 16 #[.pointer p, .string ⟨u.toArray⟩] w (Found (findD l u) w) := by
  obtain ⟨hw, hr, hn⟩ := good_all hl
  have hfind : findD l u = pickT u (atD l (floorD l u : Int)) := by rw [find_floor hr]; cases atD l (floorD l u : Int) <;> rfl
  have hfle := floorD_le l u
  obtain ⟨R, hR⟩ : ∃ R, w.heap.size = R := ⟨_, rfl⟩
  obtain ⟨wa, hwa⟩ : ∃ wa, w.alloc (.cells #[.string ⟨#[]⟩, .int .i64 0, .int .i64 0, .int .i64 0] 42) = wa := ⟨_, rfl⟩
  have hba : Below w.heap.size w wa := by rw [← hwa]; exact (Below.refl _ _).alloc (Nat.le_refl _) _
  have FR0 : Hid (Four wa R 42 (.string ⟨#[]⟩) (.int .i64 0) (.int .i64 0) (.int .i64 0)) := Lib.hid (by rw [← hwa, ← hR]; exact four_new w 42 _ _ _ _)
  have hsa : wa.heap.size = R + 1 := by rw [← hwa, ← hR]; simp
  have hd := hp.below hba
  have HF := Lib.hid (floor_any p l u wa hd hl)
  have HAT := Lib.hid (fun W (hW : Below wa.heap.size wa W) => at_any p l (floorD l u : Int) W (hd.below hW) hw hn (by omega) (by omega))
  have HB0 := Lib.hid hba
  have HWA := Lib.hid hwa
  obtain ⟨o, ho⟩ : ∃ o, atD l (floorD l u : Int) = o := ⟨_, rfl⟩
  obtain ⟨c, hc⟩ : ∃ c, floorD l u = c := ⟨_, rfl⟩
  rw [hc] at ho hfind HF HAT
  rw [ho] at hfind HAT
  obtain ⟨RES, hRES⟩ : ∃ r, findD l u = r := ⟨_, rfl⟩
  rw [hRES] at hfind ⊢
  have HFIND := Lib.hid hfind
  clear hwa hba hp hd hfind ho hc hfle hRES
  go_enter Try.func16, Try.ntmps16
  go_wp2_with fail
  rw [HWA.out]
  refine HF.out.mono ?_
  rintro e w1 ⟨rfl, _, hb1⟩
  have hs1 := hb1.size
  have HA := Lib.hid (HAT.out w1 hb1)
  have FR1 := Lib.hid (FR0.out.below hb1 (by omega))
  have HB1 := Lib.hid (HB0.out.trans (hb1.mono (by omega)))
  clear hb1 HAT HF FR0
  go_wp2_with fail
  refine HA.out.mono ?_
  rintro e w2 ⟨rfl, hb2⟩
  have hs2 := hb2.size
  obtain ⟨q, hq⟩ : ∃ q, w2.heap.size = q := ⟨_, rfl⟩
  cases o with
  | none =>
    obtain rfl : RES = none := HFIND.out
    dsimp only [Option.getD_none, Option.isSome_none]
    clear HFIND
    have FR2 := FR1.out.below hb2 (by omega)
    have hb3 : Below w2.heap.size w2 (w2.alloc (.cells #[.string ⟨#[]⟩, .int .i64 0, .int .i64 0, .int .i64 0] 42)) := (Below.refl _ _).alloc (Nat.le_refl _) _
    have FR3 := FR2.below hb3 (by omega)
    obtain ⟨m1, m2, m3, m4, ⟨k1, k2⟩, ⟨k3, k4⟩, k5, k6⟩ := FR3.all (.string ⟨#[]⟩) (.int .i64 0) (.int .i64 0)
    obtain ⟨n0, n1, n2, n3⟩ := FR3.cells
    have HX1 := Lib.hid FR3
    have HX2 := Lib.hid (FR3.set (.string ⟨#[]⟩) (.int .i64 0) (.int .i64 0) (.int .i64 0))
    have hb4 := (HB1.out.trans (hb2.mono (by omega))).trans (hb3.mono (by omega))
    have HB4 := Lib.hid hb4
    have HB5 := Lib.hid (hb4.trans ((kep_set4 (g := R) (w := w2.alloc (.cells #[.string ⟨#[]⟩, .int .i64 0, .int .i64 0, .int .i64 0] 42)) (.string ⟨#[]⟩) (.int .i64 0) (.int .i64 0) (.int .i64 0)).below (B := w.heap.size) (by simp; omega) (fun b hb => by omega)))
    unfold entV nilX
    clear FR2 hb3 FR3 hb4 hb2 HA FR1 HB1
    go_wp2_with fail
    refine bodyPost_ret (results_four2 (p := 4) (u := 5) rfl Try.underlying42 rfl infoEnt _ _ R _ _ _ _ rfl HX2.out) rfl ?_
    exact ⟨rfl, HB5.out⟩
  | some X =>
    obtain ⟨X1, x2, x3, x4⟩ := X
    dsimp only [Option.getD_some, Option.isSome_some]
    unfold entV
    dsimp only
    have FR2 := FR1.out.below hb2 (by omega)
    have hb3 : Below w2.heap.size w2 (w2.alloc (.cells #[.string ⟨X1.toArray⟩, .int .i64 x2, .int .i64 x3, .int .i64 x4] 42)) := (Below.refl _ _).alloc (Nat.le_refl _) _
    have FR3 := FR2.below hb3 (by omega)
    have FQ3 := four_new w2 42 (.string ⟨X1.toArray⟩) (.int .i64 x2) (.int .i64 x3) (.int .i64 x4)
    rw [hq] at FQ3
    obtain ⟨n0, n1, n2, n3⟩ := FR3.cells
    obtain ⟨e0, e1, e2, e3⟩ := FQ3.cells
    have hb4 := (HB1.out.trans (hb2.mono (by omega))).trans (hb3.mono (by omega))
    have HB4 := Lib.hid hb4
    have HX1 := Lib.hid FR3
    by_cases he : X1 = u
    · have t0 : (X1 == u) = true := by rw [he]; simp
      obtain ⟨m1, m2, m3, m4, ⟨k1, k2⟩, ⟨k3, k4⟩, k5, k6⟩ := FR3.all (.string ⟨X1.toArray⟩) (.int .i64 x2) (.int .i64 x3)
      have HX2 := Lib.hid (FR3.set (.string ⟨X1.toArray⟩) (.int .i64 x2) (.int .i64 x3) (.int .i64 x4))
      have HB5 := Lib.hid (hb4.trans ((kep_set4 (g := R) (w := w2.alloc (.cells #[.string ⟨X1.toArray⟩, .int .i64 x2, .int .i64 x3, .int .i64 x4] 42)) (.string ⟨X1.toArray⟩) (.int .i64 x2) (.int .i64 x3) (.int .i64 x4)).below (B := w.heap.size) (by simp; omega) (fun b hb => by omega)))
      subst he
      have t0 : (X1 == X1) = true := by simp
      obtain rfl : RES = some (X1, x2, x3, x4) := by have := HFIND.out; unfold pickT at this; dsimp only at this; rw [if_pos rfl] at this; exact this
      clear FR2 hb3 FR3 FQ3 hb4 hb2 HA FR1 HB1 HFIND
      go_wp2_with fail
      refine bodyPost_ret (results_four2 (p := 4) (u := 5) rfl Try.underlying42 rfl infoEnt _ _ R _ _ _ _ rfl HX2.out) rfl ?_
      exact ⟨rfl, HB5.out⟩
    · have t0 : (X1 == u) = false := by rw [beq_eq_false_iff_ne]; exact he
      obtain ⟨m1, m2, m3, m4, ⟨k1, k2⟩, ⟨k3, k4⟩, k5, k6⟩ := FR3.all (.string ⟨#[]⟩) (.int .i64 0) (.int .i64 0)
      have HX2 := Lib.hid (FR3.set (.string ⟨#[]⟩) (.int .i64 0) (.int .i64 0) (.int .i64 0))
      have HB5 := Lib.hid (hb4.trans ((kep_set4 (g := R) (w := w2.alloc (.cells #[.string ⟨X1.toArray⟩, .int .i64 x2, .int .i64 x3, .int .i64 x4] 42)) (.string ⟨#[]⟩) (.int .i64 0) (.int .i64 0) (.int .i64 0)).below (B := w.heap.size) (by simp; omega) (fun b hb => by omega)))
      obtain rfl : RES = none := by have := HFIND.out; unfold pickT at this; dsimp only at this; rw [if_neg he] at this; exact this
      clear FR2 hb3 FR3 FQ3 hb4 hb2 HA FR1 HB1 HFIND he
      go_wp2_with fail
      refine bodyPost_ret (results_four2 (p := 4) (u := 5) rfl Try.underlying42 rfl infoEnt _ _ R _ _ _ _ rfl HX2.out) rfl ?_
      exact ⟨rfl, HB5.out⟩
end Go.Proofs.Ytklngjnjnkocmaa.DT
