/-
  Whether one of a row of entries may not be: slices.ContainsFunc at the code's isOdd. No condition. The code's Floor, Get, and the entries from a place on (between, All, Prefix). Conditions: entries that may be.
-/
import Derived.Test.YtklngjnjnkocmaaZA37
import Derived.Test.YtklngjnjnkocmaaZA39
import Derived.Test.YtklngjnjnkocmaaZA16
set_option linter.unusedVariables false
namespace Go.Proofs.Ytklngjnjnkocmaa.DT
open Go Go.RowKit Go.Proofs.Ytklngjnjnkocmaa.MM Go.Proofs.Ytklngjnjnkocmaa.DM

def oddX (x : Ent) : Bool := !decide (okW x)
theorem any_drop {l : List Ent} {i : Nat} (hi : i < l.length) : (l.drop i).any oddX = (oddX l[i] || (l.drop (i + 1)).any oddX) := by
  rw [List.drop_eq_getElem_cons hi, List.any_cons]

set_option maxRecDepth 100000 in
set_option maxHeartbeats 1000000 in
theorem ixf_any (v : Value) (l : List Ent) (w : World) (hv : RAny entC w v l) : Calls Try.prog 44 #[v, .func (.func 26) #[] #[]] w fun e w' => ∃ r : Int, e = .returned (.int .i64 r) ∧ decide (r ≥ 0) = l.any oddX ∧ Below w.heap.size w w' := by
  obtain ⟨p, cap, rfl, hlc, hcm, _⟩ := hv.shape
  unfold maxLen at hcm
  obtain ⟨RES, hRES⟩ : ∃ RES, l.any oddX = RES := ⟨_, rfl⟩
  have H0 : Hid ((l.drop 0).any oddX = RES) := Lib.hid hRES
  rw [hRES]
  have HV := Lib.hid hv
  clear hv hRES
  go_enter Try.func44, Try.ntmps44
  go_wp2_with fail
  go_loopw [8] (fun iv wr => ∃ i : Nat, i ≤ l.length ∧ iv = .int .i64 i ∧ Hid ((l.drop i).any oddX = RES) ∧ Hid (Below w.heap.size w wr)) (fun iv _ => l.length - (intOf iv).toNat)
  case atStart => exact ⟨0, by omega, rfl, H0, Lib.hid (Below.refl _ _)⟩
  case round =>
    obtain ⟨i, hi, rfl, HI, HB⟩ := hrel
    clear H0
    by_cases hlt : i < l.length
    · have q1 : decide ((i : Int) < (l.length : Int)) = true := by rw [decide_eq_true_eq]; omega
      have q2 : decide (i < l.length) = true := by rw [decide_eq_true_eq]; omega
      have q3 : (i : Int) < (l.length : Int) := by omega
      obtain ⟨b, off, rfl, hbl, _, c1, c2, c3, c4⟩ := ent_at (RAny.below HV.out HB.out) hlt
      have hnx := HI.out
      rw [any_drop hlt] at hnx
      generalize l[i] = X at *
      have hC := isodd_any X wr
      have ho : oddX X = !decide (okW X) := rfl
      rw [← ho] at hC
      generalize oddX X = o at *
      obtain ⟨X1, x2, x3, x4⟩ := X
      unfold entV at hC
      dsimp only at *
      have HC := Lib.hid hC
      clear hC ho HI
      cases o with
      | true =>
        rw [Bool.true_or] at hnx
        subst hnx
        go_wp2_with fail
        refine HC.out.mono ?_
        rintro e w1 ⟨rfl, hb1⟩
        have HB1 := Lib.hid (HB.out.trans (hb1.mono HB.out.size))
        clear hb1 HC
        go_wp2_with fail
        go_ret
        exact ⟨_, rfl, decide_eq_true (by omega), HB1.out⟩
      | false =>
        rw [Bool.false_or] at hnx
        have HN := Lib.hid hnx
        clear hnx
        go_wp2_with fail
        refine HC.out.mono ?_
        rintro e w1 ⟨rfl, hb1⟩
        have HB1 := Lib.hid (HB.out.trans (hb1.mono HB.out.size))
        clear hb1 HC
        go_wp2_with fail
        go_roundw
        case rel => exact ⟨i + 1, by omega, by go_num, HN, HB1⟩
        case measure => simp [intOf]; omega
    · obtain rfl : i = l.length := by omega
      have q1 : decide ((l.length : Int) < (l.length : Int)) = false := by simp
      have q2 : decide (l.length < l.length) = false := by simp
      have hf : RES = false := by rw [← HI.out, List.drop_length]; rfl
      subst hf
      clear HI hlt
      go_wp2_with fail
      go_ret
      exact ⟨_, rfl, by decide, HB.out⟩

set_option maxRecDepth 100000 in
theorem cf_any (v : Value) (l : List Ent) (w : World) (hv : RAny entC w v l) : Calls Try.prog 25 #[v, .func (.func 26) #[] #[]] w fun e w' => e = .returned (.bool (l.any oddX)) ∧ Below w.heap.size w w' := by
  have HC := Lib.hid (ixf_any v l w hv)
  generalize l.any oddX = RES at *
  clear hv
  go_enter Try.func25, Try.ntmps25
  go_wp2_with fail
  refine HC.out.mono ?_
  rintro e w1 ⟨r, rfl, hr, hb⟩
  have HB := Lib.hid hb
  clear hb HC
  go_wp2_with fail
  go_ret
  exact ⟨by rw [← hr]; rfl, HB.out⟩
end Go.Proofs.Ytklngjnjnkocmaa.DT
set_option linter.unusedVariables false
namespace Go.Proofs.Ytklngjnjnkocmaa.DT
open Go Go.RowKit Go.Proofs.Ytklngjnjnkocmaa.MM Go.Proofs.Ytklngjnjnkocmaa.DM
open Go.Proofs.Ytklngjnjnkocmaa.EM (lessL less_bytes)

theorem good_all {l : List Ent} (h : areD l = true) : (∀ x ∈ l, okW x) ∧ rises [] l = true ∧ l.length ≤ 262144 := by
  unfold areD at h
  rw [Bool.and_eq_true, decide_eq_true_eq, areR_none] at h
  exact ⟨h.2.1, h.2.2, h.1⟩

set_option maxRecDepth 100000 in
theorem fc_any (bt : Nat) (t u : List UInt8) (w : World) (h : w.cell? ⟨bt, 0, none⟩ = some (.string ⟨u.toArray⟩)) : Calls Try.prog 42 (#[.string ⟨t.toArray⟩] ++ #[.pointer (some ⟨bt, 0, none⟩)]) w fun e w' => e = .returned (.bool (lessL t u)) ∧ Below w.heap.size w w' := by
  have hlb := less_bytes t u
  generalize lessL t u = b at *
  go_enter Try.func42, Try.ntmps42
  go_wp2_with fail
  go_ret
  exact ⟨rfl, Below.refl _ _⟩
theorem hasPrefix_hasT (t u : List UInt8) : Lib.hasPrefix t u = hasT u t := by
  unfold Lib.hasPrefix hasT
  rw [Bool.eq_iff_iff, List.isPrefixOf_iff_prefix, Bool.and_eq_true, decide_eq_true_eq, decide_eq_true_eq]
  constructor
  · intro h
    exact ⟨h.length_le, (List.prefix_iff_eq_take.1 h).symm⟩
  · rintro ⟨_, h⟩
    exact List.prefix_iff_eq_take.2 h.symm
set_option maxRecDepth 100000 in
theorem pc_any (bt : Nat) (t u : List UInt8) (w : World) (h : w.cell? ⟨bt, 0, none⟩ = some (.string ⟨u.toArray⟩)) : Calls Try.prog 40 (#[.string ⟨t.toArray⟩] ++ #[.pointer (some ⟨bt, 0, none⟩)]) w fun e w' => e = .returned (.bool (upTo u t)) ∧ Below w.heap.size w w' := by
  have hlb := less_bytes t u
  have hh := Try.strings_HasPrefix ⟨t.toArray⟩ ⟨u.toArray⟩ w
  rw [str_list, str_list, hasPrefix_hasT] at hh
  have HH := Lib.hid hh
  clear hh
  unfold upTo
  cases hb : lessL t u with
  | true =>
    rw [hb] at hlb
    clear hb
    go_enter Try.func40, Try.ntmps40
    go_wp2_with fail
    go_ret
    exact ⟨rfl, Below.refl _ _⟩
  | false =>
    rw [hb] at hlb
    rw [Bool.false_or]
    generalize hasT u t = b at *
    clear hb
    go_enter Try.func40, Try.ntmps40
    go_wp2_with fail
    refine HH.out.mono ?_
    rintro e w1 ⟨rfl, rfl⟩
    go_wp2_with fail
    go_ret
    exact ⟨rfl, Below.refl _ _⟩
theorem fc_tells (R : Nat) (u : List UInt8) (w : World) (h : w.cell? ⟨R, 0, none⟩ = some (.string ⟨u.toArray⟩)) : Tells 42 #[.pointer (some ⟨R, 0, none⟩)] (fun t => lessL t u) w :=
  ⟨enters_of Try.func42 (by kernel_rfl) rfl, fun W t hW => fc_any R t u W ((hW.cell (p := ⟨R, 0, none⟩) (World.block_lt_of_cell? _ _ h)).trans h)⟩
theorem pc_tells (R : Nat) (u : List UInt8) (w : World) (h : w.cell? ⟨R, 0, none⟩ = some (.string ⟨u.toArray⟩)) : Tells 40 #[.pointer (some ⟨R, 0, none⟩)] (upTo u) w :=
  ⟨enters_of Try.func40 (by kernel_rfl) rfl, fun W t hW => pc_any R t u W ((hW.cell (p := ⟨R, 0, none⟩) (World.block_lt_of_cell? _ _ h)).trans h)⟩

set_option maxRecDepth 100000 in
set_option maxHeartbeats 1000000 in
theorem floor_any (p : Option Addr) (l : List Ent) (u : List UInt8) (w : World) (hp : DictP (fun _ => True) w p l) (hl : areD l = true) : Calls Try.prog 20 #[.pointer p, .string ⟨u.toArray⟩] w fun e w' => e = .returned (.int .i64 (floorD l u : Int)) ∧ TurnsAt (fun k => !lessL (tK l k) u) l.length (floorD l u) ∧ Below w.heap.size w w' := by
  obtain ⟨hw, hr, hn⟩ := good_all hl
  obtain ⟨R, hR⟩ : ∃ R, w.heap.size = R := ⟨_, rfl⟩
  obtain ⟨wa, hwa⟩ : ∃ W, w.alloc (.cells #[.string ⟨u.toArray⟩] 9) = W := ⟨_, rfl⟩
  have hba : Below w.heap.size w wa := by rw [← hwa]; exact (Below.refl _ _).alloc (Nat.le_refl _) _
  have x2 : wa.cell? ⟨R, 0, none⟩ = some (.string ⟨u.toArray⟩) := by rw [← hwa, ← hR, cell_of_row _ _ 0 _ _ _ (heap_alloc_new w _)]; rfl
  have HC := Lib.hid (count_any p l 42 _ _ wa (hp.below hba) (fc_tells R u wa x2) hw hn)
  have HBA := Lib.hid hba
  have HWA := Lib.hid hwa
  clear hba hwa x2 hp
  go_enter Try.func20, Try.ntmps20
  go_wp2_with fail
  rw [HWA.out]
  go_wp2_with fail
  refine HC.out.mono ?_
  rintro e w1 ⟨c, rfl, hT, hb1⟩
  have hc := floor_turns hr hT
  subst hc
  have HT := Lib.hid hT
  have HB := Lib.hid (HBA.out.trans (hb1.mono HBA.out.size))
  clear hT hb1 HC
  go_wp2_with fail
  go_ret
  exact ⟨rfl, HT.out, HB.out⟩
end Go.Proofs.Ytklngjnjnkocmaa.DT
