/-
  awake: the page's example. No condition.
-/
import Derived.Test.YtdgjbhejokmeoaaPstFew
import Derived.Test.YtdgjbhejokmeoaaPstEnc
import Derived.Test.YtdgjbhejokmeoaaPstRef3
set_option linter.unusedVariables false
namespace Go.Proofs.Ytdgjbhejokmeoaa.PW
open Go.RowKit Go.Proofs.Ytdgjbhejokmeoaa.MM Go.Proofs.Ytdgjbhejokmeoaa.PM Go.Proofs.Ytdgjbhejokmeoaa.VM

def exL : List Post := [(0, [3, 5]), (2, [0])]
def exB : List UInt8 := [2, 2, 7, 0, 2, 3, 1, 1, 1, 0]
theorem ex_is : isL exL = true := by decide
theorem ex_enc : encL exL = exB := by decide
theorem ex_encR : encR exL = (exB, 0) := by unfold encR; rw [if_pos ex_is, ex_enc]
theorem ex_dec : decR (decO exB) = (exL, 0) := by rw [decO_some (by decide) ⟨ex_is, ex_enc⟩]; rfl
theorem ex_row (w : World) : PRow (((w.alloc (.cells #[.int .i64 3, .int .i64 5] 3)).alloc (.cells #[.int .i64 0] 3)).alloc (.cells #[.int .i64 0, .slice (some ⟨w.heap.size, 0, none⟩) 2 2, .int .i64 2, .slice (some ⟨w.heap.size + 1, 0, none⟩) 1 1] 47)) (.slice (some ⟨w.heap.size + 2, 0, none⟩) 2 2) exL ∧
    Below w.heap.size w (((w.alloc (.cells #[.int .i64 3, .int .i64 5] 3)).alloc (.cells #[.int .i64 0] 3)).alloc (.cells #[.int .i64 0, .slice (some ⟨w.heap.size, 0, none⟩) 2 2, .int .i64 2, .slice (some ⟨w.heap.size + 1, 0, none⟩) 1 1] 47)) := by
  have o1 : OwnI 0 (w.alloc (.cells #[.int .i64 3, .int .i64 5] 3)) (.slice (some ⟨w.heap.size, 0, none⟩) 2 2) [3, 5] := own_lit w [.int .i64 3, .int .i64 5] 3 0 (Nat.zero_le _) (by unfold maxLen; simp)
  obtain ⟨w1, hw1⟩ : ∃ x, w.alloc (.cells #[.int .i64 3, .int .i64 5] 3) = x := ⟨_, rfl⟩
  have s1 : w1.heap.size = w.heap.size + 1 := by rw [← hw1]; simp
  have b1 : Below w.heap.size w w1 := by rw [← hw1]; exact (Below.refl _ _).alloc (Nat.le_refl _) _
  rw [hw1] at o1 ⊢
  have o2 : OwnI 0 (w1.alloc (.cells #[.int .i64 0] 3)) (.slice (some ⟨w1.heap.size, 0, none⟩) 1 1) [0] := own_lit w1 [.int .i64 0] 3 0 (Nat.zero_le _) (by unfold maxLen; simp)
  have b2 : Below w1.heap.size w1 (w1.alloc (.cells #[.int .i64 0] 3)) := (Below.refl _ _).alloc (Nat.le_refl _) _
  have s2 : (w1.alloc (.cells #[.int .i64 0] 3)).heap.size = w1.heap.size + 1 := by simp
  obtain ⟨w2, hw2⟩ : ∃ x, w1.alloc (.cells #[.int .i64 0] 3) = x := ⟨_, rfl⟩
  rw [hw2] at o2 b2 s2 ⊢
  rw [s1] at o2 s2
  have o1' := OwnI.keep o1 b2
  have b3 : Below w2.heap.size w2 (w2.alloc (.cells #[.int .i64 0, .slice (some ⟨w.heap.size, 0, none⟩) 2 2, .int .i64 2, .slice (some ⟨w.heap.size + 1, 0, none⟩) 1 1] 47)) := (Below.refl _ _).alloc (Nat.le_refl _) _
  have hh : (w2.alloc (.cells #[.int .i64 0, .slice (some ⟨w.heap.size, 0, none⟩) 2 2, .int .i64 2, .slice (some ⟨w.heap.size + 1, 0, none⟩) 1 1] 47)).heap[w2.heap.size]? = some (.cells #[.int .i64 0, .slice (some ⟨w.heap.size, 0, none⟩) 2 2, .int .i64 2, .slice (some ⟨w.heap.size + 1, 0, none⟩) 1 1] 47) := heap_alloc_new _ _
  have e1 := OwnI.ion (OwnI.keep o1' b3)
  have e2 := OwnI.ion (OwnI.keep o2 b3)
  refine ⟨?_, (b1.trans (b2.mono (by omega))).trans (b3.mono (by omega))⟩
  rw [s2] at hh
  refine ⟨some ⟨w.heap.size + 2, 0, none⟩, 2, [(0, .slice (some ⟨w.heap.size, 0, none⟩) 2 2), (2, .slice (some ⟨w.heap.size + 1, 0, none⟩) 1 1)], rfl, Nat.le_refl _, by unfold maxLen; omega, (fun h => by cases h), ⟨rfl, fun i hi hi' => ?_⟩, .inr ⟨w.heap.size + 2, 0, rfl, (Array.getElem?_eq_some_iff.1 hh).1, trivial, fun i hi => ?_⟩⟩
  · match i, hi with
    | 0, _ => exact ⟨rfl, e1⟩
    | 1, _ => exact ⟨rfl, e2⟩
  · match i, hi with
    | 0, _ => exact ⟨by rw [cell_of_row _ _ 0 _ _ _ hh]; rfl, by rw [cell_of_row _ _ 1 _ _ _ hh]; rfl⟩
    | 1, _ => exact ⟨by rw [cell_of_row _ _ 2 _ _ _ hh]; rfl, by rw [cell_of_row _ _ 3 _ _ _ hh]; rfl⟩

set_option maxRecDepth 100000 in
set_option maxHeartbeats 2000000 in
theorem awake_any (w : World) : Calls Try.prog 16 #[] w fun e w' => e = .returned (.bool true) ∧ Below w.heap.size w w' := by
  have HX := Lib.hid (ex_row w)
  obtain ⟨W, hW⟩ : ∃ W, ((w.alloc (.cells #[.int .i64 3, .int .i64 5] 3)).alloc (.cells #[.int .i64 0] 3)).alloc (.cells #[.int .i64 0, .slice (some ⟨w.heap.size, 0, none⟩) 2 2, .int .i64 2, .slice (some ⟨w.heap.size + 1, 0, none⟩) 1 1] 47) = W := ⟨_, rfl⟩
  have HW := Lib.hid hW
  rw [hW] at HX
  have hE := enc_any _ exL W HX.out.1 (by decide) (by decide)
  rw [ex_encR] at hE
  unfold EncLeft at hE
  dsimp only at hE
  have HE := Lib.hid hE
  have HD : Hid (∀ v X, BRow X v exB → Calls Try.prog _ #[v] X (DecLeft (exL, 0) X)) := Lib.hid (fun v X h => by
    have := decode_any v exB X h (by decide)
    rw [ex_dec] at this
    exact this)
  have HC : Hid (∀ v X, BRow X v exB → Calls Try.prog _ #[v] X fun e w' => e = .returned (.tuple #[.int .i64 2, .int .i64 0]) ∧ Below X.heap.size X w') := Lib.hid (fun v X h => by
    have := count_any v exB X h (by decide)
    rw [ex_dec] at this
    exact this)
  clear hE hW
  go_enter Try.func16, Try.ntmps16
  go_wp2_with fail
  rw [HW.out]
  refine HE.out.mono ?_
  rintro e w2 ⟨v2, rfl, ho2, hb2⟩
  have HB2 := Lib.hid (grow HX.out.2 hb2)
  have hr2 := OwnB.brow ho2
  have HR2 := Lib.hid hr2
  have HL2 := Lib.hid (HX.out.1.below hb2)
  clear ho2 hb2 HE
  go_wp2_with fail
  refine (HD.out _ _ HR2.out).mono ?_
  rintro e w3 ⟨v3, rfl, hp3, hb3⟩
  dsimp only at hp3 ⊢
  have HB3 := Lib.hid (grow HB2.out hb3)
  have HR3 := Lib.hid (HR2.out.below hb3)
  have HL3 := Lib.hid (HL2.out.below hb3)
  have HP3 := Lib.hid hp3
  clear hp3 hb3 HR2 HL2 hr2
  go_wp2_with fail
  refine (HC.out _ _ HR3.out).mono ?_
  rintro e w4 ⟨rfl, hb4⟩
  have HB4 := Lib.hid (grow HB3.out hb4)
  have HL4 := Lib.hid (HL3.out.below hb4)
  have HP4 := Lib.hid (HP3.out.below hb4)
  have c1 := BIn.conv (HR3.out.below hb4)
  have HS := Lib.hid (rsame_any _ _ exL exL w4 HP4.out HL4.out)
  rw [decide_eq_true rfl] at HS
  unfold exB at c1
  clear hb4 HR3 HL3 HP3
  go_wp2_with fail
  refine HS.out.mono ?_
  rintro e w5 ⟨rfl, hb5⟩
  have HB5 := Lib.hid (grow HB4.out hb5)
  clear hb5
  go_wp2_with fail
  go_ret
  exact ⟨rfl, HB5.out⟩
end Go.Proofs.Ytdgjbhejokmeoaa.PW
