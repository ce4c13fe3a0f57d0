/-
  The law CrcPieces returns true. Condition: the arguments read as data.
-/
import Derived.Test.YtddhodmkcphggaaCrcAwake
set_option linter.unusedVariables false
namespace Go.Proofs.Ytddhodmkcphggaa.CR
open Go.RowKit Go.Proofs.Ytddhodmkcphggaa.MM Go.Proofs.Ytddhodmkcphggaa.CM

theorem next_take {b : List UInt8} {A S m : Nat} (h : nextL 0 (b.take A) = S) : nextL 0 (b.take (A + m)) = nextL S ((b.drop A).take m) := by
  rw [List.take_add, nextL_append, h]

/-- How many rounds are left: a round that comes to the end of the cuts takes all. -/
def toGo (L D : Nat) (x y : Value) : Nat := if (intOf x).toNat < L then D + 1 - (intOf y).toNat else 0
theorem toGo_lt {L D A m I : Nat} {x y : Int} (hA : A < L) (hI : I ≤ D) (hx : x = A + m) (h : A + m < L → y = I + 1) : toGo L D (.int .i64 x) (.int .i64 y) < toGo L D (.int .i64 A) (.int .i64 I) := by
  show (if x.toNat < L then D + 1 - y.toNat else 0) < (if (A : Int).toNat < L then D + 1 - (I : Int).toNat else 0)
  rw [if_pos (show (A : Int).toNat < L by omega)]
  by_cases hl : A + m < L
  · rw [if_pos (by omega), h hl]
    omega
  · rw [if_neg (by omega)]
    omega

set_option maxRecDepth 100000 in
set_option maxHeartbeats 1000000 in
theorem pieces_walk (v0 v1 : Value) (a d : List UInt8) (w : World) (h0 : BRow w v0 a) (h1 : BRow w v1 d) :
    Calls Try.prog 5 #[v0, v1] w fun e w' => e = .returned (.bool true) ∧ Below w.heap.size w w' := by
  have k0 := Lib.hid (cut_any v0 a w h0)
  unfold CutLeft at k0
  have hbl : (a.take 3000).length ≤ 3000 := by rw [List.length_take]; omega
  generalize a.take 3000 = b at *
  obtain ⟨q, capq, rfl, hcq, hmq⟩ := h1.shape
  unfold maxLen at hmq
  have HD := Lib.hid h1
  clear h0 h1
  go_enter Try.func5, Try.ntmps5
  go_wp2_with fail
  refine k0.out.mono ?_
  rintro e w0 ⟨u0, rfl, hu0, rfl⟩
  obtain ⟨p, cap, rfl, hc0, hm0⟩ := hu0.shape
  unfold maxLen at hm0
  have HU := Lib.hid hu0
  have HS0 : Hid (nextL 0 (b.take 0) = 0) := Lib.hid (nextL_nil (by omega))
  clear k0 hu0
  go_wp2_with fail
  go_loopw [5, 6, 7] (fun s at_ i wr => ∃ (A S : Nat) (z : Int), A ≤ b.length ∧ (A < b.length → ∃ I : Nat, I ≤ d.length ∧ z = I) ∧ at_ = .int .i64 A ∧ i = .int .i64 z ∧ s = .int .u32 S ∧ S < 4294967296 ∧ Hid (nextL 0 (b.take A) = S) ∧ Hid (Below w.heap.size w wr)) (fun _ at_ i _ => toGo b.length d.length at_ i)
  case atStart => exact ⟨0, 0, 0, by omega, fun _ => ⟨0, by omega, rfl⟩, rfl, rfl, rfl, by omega, HS0, Lib.hid (Below.refl _ _)⟩
  case round =>
    obtain ⟨A, S, z, hA, hz, rfl, rfl, rfl, hS, HS, HB⟩ := hrel
    clear HS0
    by_cases hlt : A < b.length
    · obtain ⟨I, hI, rfl⟩ := hz hlt
      obtain ⟨R, hR⟩ : ∃ R : Nat, b.length - A = R := ⟨_, rfl⟩
      have hsub : (b.length : Int) - A = (R : Int) := by omega
      by_cases hd : I < d.length
      · obtain ⟨bb, off, rfl, hbl2, hcell2⟩ := (HD.out.below HB.out).at_ hd
        have hcb := d[I].toNat_lt
        generalize d[I].toNat = c at *
        by_cases hm : c < R
        · have hmi : (c : Int) < R := by omega
          have hi1 : (A : Int) + c ≤ cap := by omega
          have hto : ((A : Int) + c).toNat - A = c := by omega
          have hrow := (((HU.out.drop3 A (by omega)).2 (by omega)).take c (by omega)).below HB.out
          have hB0 := HB.out.size
          have hK := Lib.hid (next_any S _ _ wr hS (hrow.row hB0))
          have hS2 := nextL_lt S ((b.drop A).take c)
          have hnext := next_take (m := c) HS.out
          generalize nextL S ((b.drop A).take c) = S2 at *
          have HN := Lib.hid hnext
          clear hrow hnext HS
          go_wp2_with fail
          refine hK.out.mono ?_
          rintro e w1 ⟨rfl, b1⟩
          have HB1 := Lib.hid (grow HB.out b1)
          clear b1
          go_wp2_with fail
          go_roundw
          case rel => exact ⟨A + c, S2, _, by omega, fun _ => ⟨I + 1, by omega, by go_num⟩, by go_num, rfl, rfl, hS2, HN, HB1⟩
          case measure => exact toGo_lt hlt hI rfl (fun _ => by omega)
        · have hmi : (R : Int) ≤ c := by omega
          have hi1 : (A : Int) + R ≤ cap := by omega
          have hto : ((A : Int) + R).toNat - A = R := by omega
          have hrow := (((HU.out.drop3 A (by omega)).2 (by omega)).take R (by omega)).below HB.out
          have hB0 := HB.out.size
          have hK := Lib.hid (next_any S _ _ wr hS (hrow.row hB0))
          have hS2 := nextL_lt S ((b.drop A).take R)
          have hnext := next_take (m := R) HS.out
          generalize nextL S ((b.drop A).take R) = S2 at *
          have HN := Lib.hid hnext
          clear hrow hnext HS
          go_wp2_with fail
          refine hK.out.mono ?_
          rintro e w1 ⟨rfl, b1⟩
          have HB1 := Lib.hid (grow HB.out b1)
          clear b1
          go_wp2_with fail
          go_roundw
          case rel => exact ⟨A + R, S2, _, by omega, fun _ => ⟨I + 1, by omega, by go_num⟩, by go_num, rfl, rfl, hS2, HN, HB1⟩
          case measure => exact toGo_lt hlt hI rfl (fun _ => by omega)
      · obtain rfl : I = d.length := by omega
        have hi1 : (A : Int) + R ≤ cap := by omega
        have hto : ((A : Int) + R).toNat - A = R := by omega
        have hrow := (((HU.out.drop3 A (by omega)).2 (by omega)).take R (by omega)).below HB.out
        have hB0 := HB.out.size
        have hK := Lib.hid (next_any S _ _ wr hS (hrow.row hB0))
        have hS2 := nextL_lt S ((b.drop A).take R)
        have hnext := next_take (m := R) HS.out
        generalize nextL S ((b.drop A).take R) = S2 at *
        have HN := Lib.hid hnext
        clear hrow hnext HS
        go_wp2_with fail
        refine hK.out.mono ?_
        rintro e w1 ⟨rfl, b1⟩
        have HB1 := Lib.hid (grow HB.out b1)
        clear b1
        go_wp2_with fail
        go_roundw
        case rel => exact ⟨A + R, S2, _, by omega, fun h => by omega, by go_num, rfl, rfl, hS2, HN, HB1⟩
        case measure => exact toGo_lt hlt hI rfl (fun _ => by omega)
    · obtain rfl : A = b.length := by omega
      have hs := HS.out
      rw [List.take_length] at hs
      have K1 := Lib.hid (fun W (h : Below w.heap.size w W) => flat_one b ▸ sum_any _ _ _ (prow_one (HU.out.below h)))
      unfold sumL at K1
      rw [hs] at K1
      clear hs HS
      go_wp2_with fail
      refine (K1.out _ HB.out).mono ?_
      rintro e w1 ⟨rfl, b1⟩
      have HB1 := Lib.hid (grow (HB.out.alloc HB.out.size _) b1)
      clear b1
      go_wp2_with fail
      refine (awake_any _).mono ?_
      rintro e w6 ⟨rfl, b6⟩
      have HB6 := Lib.hid (grow HB1.out b6)
      go_wp2_with fail
      go_ret
      exact ⟨rfl, HB6.out⟩
end Go.Proofs.Ytddhodmkcphggaa.CR
