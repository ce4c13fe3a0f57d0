/-
  The document's example of layer 11. No condition.
-/
import Derived.Test.YtklngjnjnkocmaaZA42
import Derived.Test.YtklngjnjnkocmaaZA45
import Derived.Test.YtklngjnjnkocmaaZA46
set_option linter.unusedVariables false
namespace Go.Proofs.Ytklngjnjnkocmaa.DT
open Go Go.RowKit Go.Proofs.Ytklngjnjnkocmaa.MM Go.Proofs.Ytklngjnjnkocmaa.DM
open Go.Proofs.Ytklngjnjnkocmaa.EM (lessL)

def exX : Ent := ([97, 98], 1, 2, 3)
def exB : List UInt8 := [1, 7, 0, 2, 97, 98, 1, 2, 3]
theorem ex_are : areD [exX] = true := by decide +kernel
theorem ex_enc : encD [exX] = exB := by decide +kernel
theorem ex_dec : decD exB = some [exX] := decD_iff.2 ⟨ex_are, ex_enc⟩
theorem ex_none : decD [1] = none := by decide +kernel
theorem ex_find : findD [exX] [97, 98] = some exX := by decide +kernel
theorem ex_floor : floorD [exX] [98] = 1 := by decide +kernel
theorem ents_lit (w : World) (x : Ent) : RAny entC (w.alloc (.cells #[.string ⟨x.1.toArray⟩, .int .i64 x.2.1, .int .i64 x.2.2.1, .int .i64 x.2.2.2] 42)) (.slice (some ⟨w.heap.size, 0, none⟩) 1 1) [x] :=
  ROn.any (ron_lit (e := 42) (S := fun _ => True) w [[.string ⟨x.1.toArray⟩, .int .i64 x.2.1, .int .i64 x.2.2.1, .int .i64 x.2.2.2]] [x] (by unfold maxLen; simp) (Mean.single (ent_on.2 rfl)))
theorem opened {w w' : World} {g : Nat} {l : List Ent} (h : DictAt (fun b => w.heap.size ≤ b) w' g l) : DictP (fun _ => True) w' (some ⟨g, 0, none⟩) l := .inr ⟨g, rfl, h.keep (Kep.refl _ _) fun _ _ _ => trivial⟩
theorem grow2 {w w1 w2 : World} (h : Below w.heap.size w w1) (k : Below w1.heap.size w1 w2) : Below w.heap.size w w2 := h.trans (k.mono h.size)

set_option maxRecDepth 100000 in
set_option maxHeartbeats 1000000 in
theorem awake_any (w : World) : Calls Try.prog 15 #[] w fun e w' => e = .returned (.bool true) ∧ Below w.heap.size w w' := by
  obtain ⟨w0, hw0⟩ : ∃ W, w.alloc (.cells #[.string ⟨#[97, 98]⟩, .int .i64 1, .int .i64 2, .int .i64 3] 42) = W := ⟨_, rfl⟩
  obtain ⟨w1, hw1⟩ : ∃ W, w0.alloc (.cells #[.string ⟨#[97, 98]⟩, .int .i64 1, .int .i64 2, .int .i64 3] 42) = W := ⟨_, rfl⟩
  have hb0 : Below w.heap.size w w0 := by rw [← hw0]; exact (Below.refl _ _).alloc (Nat.le_refl _) _
  have hb1 : Below w0.heap.size w0 w1 := by rw [← hw1]; exact (Below.refl _ _).alloc (Nat.le_refl _) _
  obtain ⟨g, hg⟩ : ∃ g, w.heap.size = g := ⟨_, rfl⟩
  have F0 : Four w0 g 42 (.string ⟨#[97, 98]⟩) (.int .i64 1) (.int .i64 2) (.int .i64 3) := by rw [← hw0, ← hg]; exact four_new w 42 _ _ _ _
  have hs0 : w0.heap.size = g + 1 := by rw [← hw0, ← hg]; simp
  have F1 := Lib.hid (F0.below hb1 (by omega))
  have hlit : RAny entC w1 (.slice (some ⟨w0.heap.size, 0, none⟩) 1 1) [exX] := by rw [← hw1]; exact ents_lit w0 exX
  have henc := enc_any _ [exX] w1 hlit
  rw [ex_are, if_pos rfl, if_pos rfl, ex_enc, hs0] at henc
  have HE := Lib.hid henc
  have HB1 := Lib.hid (grow2 hb0 hb1)
  have HS1 : Hid (g + 1 ≤ w1.heap.size) := Lib.hid (by have := hb1.size; omega)
  have HW : Hid (w0.alloc (.cells #[.string ⟨#[97, 98]⟩, .int .i64 1, .int .i64 2, .int .i64 3] 42) = w1) := Lib.hid hw1
  have HW0 : Hid (w.alloc (.cells #[.string ⟨#[97, 98]⟩, .int .i64 1, .int .i64 2, .int .i64 3] 42) = w0) := Lib.hid hw0
  clear hw0 hw1 hb0 hb1 F0 hlit henc
  go_enter Try.func15, Try.ntmps15
  go_wp2_with fail
  rw [HW0.out, HW.out]
  refine HE.out.mono ?_
  rintro e w2 ⟨v2, rfl, ho2, hb2⟩
  have HO := Lib.hid (open_any v2 exB w2 (OwnB.brow ho2) (by decide))
  rw [ex_dec] at HO
  have F2 := Lib.hid (F1.out.below hb2 (by have := HS1.out; omega))
  have HB2 := Lib.hid (grow2 HB1.out hb2)
  have HR2 := Lib.hid (OwnB.brow ho2)
  have hs2 : g + 1 ≤ w2.heap.size := by have := hb2.size; have := HS1.out; omega
  clear ho2 hb2 HE F1 HB1 HW HW0
  go_wp2_with fail
  refine HO.out.mono ?_
  rintro e w3 ⟨p3, rfl, _, hdict, hb3⟩
  obtain ⟨g3, rfl, hda⟩ := hdict [exX] rfl
  have hD := opened hda
  have HDI := Lib.hid hD
  have hs3 := hb3.size
  have F3 := Lib.hid (F2.out.below hb3 (by omega))
  have HB3 := Lib.hid (grow2 HB2.out hb3)
  have hR3 : BIn w2.heap.size w3 v2 exB := BIn.below HR2.out hb3
  have hconv := hR3.conv
  unfold exB at hconv
  obtain ⟨pv, cv, rfl, _⟩ := hR3.shape
  have HG := Lib.hid (get_any (some ⟨g3, 0, none⟩) [exX] [97, 98] w3 hD ex_are)
  rw [ex_find] at HG
  clear hdict hda hD hb3 HO F2 HB2 HR2 hR3
  dsimp only [Option.isSome_some, if_true]
  go_wp2_with fail
  refine HG.out.mono ?_
  rintro e w4 ⟨rfl, hb4⟩
  obtain ⟨q, hq⟩ : ∃ q, w4.heap.size = q := ⟨_, rfl⟩
  obtain ⟨w5, hw5⟩ : ∃ W, w4.alloc (.cells #[.string ⟨#[97, 98]⟩, .int .i64 1, .int .i64 2, .int .i64 3] 42) = W := ⟨_, rfl⟩
  obtain ⟨w6, hw6⟩ : ∃ W, w5.alloc (.cells #[.int .u8 1] 5) = W := ⟨_, rfl⟩
  have hb5 : Below w4.heap.size w4 w5 := by rw [← hw5]; exact (Below.refl _ _).alloc (Nat.le_refl _) _
  have hb6 : Below w5.heap.size w5 w6 := by rw [← hw6]; exact (Below.refl _ _).alloc (Nat.le_refl _) _
  have hs5 : w5.heap.size = q + 1 := by rw [← hw5, ← hq]; simp
  have F5 : Four w5 q 42 (.string ⟨#[97, 98]⟩) (.int .i64 1) (.int .i64 2) (.int .i64 3) := by rw [← hw5, ← hq]; exact four_new w4 42 _ _ _ _
  have hlit : BRow w6 (.slice (some ⟨w5.heap.size, 0, none⟩) 1 1) [1] := by
    rw [← hw6]
    exact Row.of_own (own_lit w5 [.int .u8 1] 5 0 (Nat.zero_le _) (by unfold maxLen; simp))
  have hop := open_any _ [1] w6 hlit (by decide)
  rw [ex_none, hs5] at hop
  have HOP := Lib.hid hop
  have hb46 := grow2 hb5 hb6
  have hs4 := hb4.size
  have hs46 := hb46.size
  have F6 := Lib.hid (F5.below hb6 (by omega))
  have F36 := Lib.hid ((F3.out.below hb4 (by omega)).below hb46 (by omega))
  have HB6 := Lib.hid (grow2 (grow2 HB3.out hb4) hb46)
  have HD6 := Lib.hid ((HDI.out.below hb4).below hb46)
  have HWA : Hid (w4.alloc (.cells #[.string ⟨#[97, 98]⟩, .int .i64 1, .int .i64 2, .int .i64 3] 42) = w5) := Lib.hid hw5
  have HWB : Hid (w5.alloc (.cells #[.int .u8 1] 5) = w6) := Lib.hid hw6
  clear hw5 hw6 hb5 hb6 F5 hlit hop hb46 hb4 HB3 HDI F3 HG hconv
  unfold exX entV
  dsimp only [Option.getD_some, Option.isSome_some]
  go_wp2_with fail
  rw [HWA.out, HWB.out]
  refine HOP.out.mono ?_
  rintro e w7 ⟨p7, rfl, hp7, _, hb7⟩
  obtain rfl := hp7 rfl
  dsimp only [Option.isSome_none]
  have hs7 := hb7.size
  have F7 := F6.out.below hb7 F6.out.lt
  have F37 := F36.out.below hb7 F36.out.lt
  have hb7' := hb7
  obtain ⟨n0, n1, n2, n3⟩ := F7.cells
  obtain ⟨m0, m1, m2, m3⟩ := F37.cells
  have heq := eq_ent exX exX w7
  rw [decide_eq_true rfl] at heq
  unfold exX at heq
  have HL := Lib.hid (len_any (some ⟨g3, 0, none⟩) [exX] w7 (HD6.out.below hb7))
  have HF := Lib.hid (floor_any (some ⟨g3, 0, none⟩) [exX] [98] w7 (HD6.out.below hb7) ex_are)
  rw [ex_floor] at HF
  have HB7 := Lib.hid (grow2 HB6.out hb7)
  clear hb7 hb7' F7 F37 HB6 HD6 HOP F6 F36
  go_wp2_with fail
  refine HL.out.mono ?_
  rintro e w8 ⟨rfl, rfl⟩
  go_wp2_with fail
  refine HF.out.mono ?_
  rintro e w9 ⟨rfl, _, hb9⟩
  have HB9 := Lib.hid (grow2 HB7.out hb9)
  clear hb9 HF HL HB7
  go_wp2_with fail
  go_ret
  exact ⟨rfl, HB9.out⟩
end Go.Proofs.Ytklngjnjnkocmaa.DT
