/-
  Bytes of one rune behind a row of the call's own (the reference's put, the code's encodable): what the plain lists say. Condition: the row stays below 2^47 bytes.
-/
import Derived.Test.YtgacfihidpijeaaProg
import Derived.Test.YtgacfihidpijeaaZE6
import Derived.WalkKit
import Derived.Below
import Derived.Lib.Hide
import Derived.LoopTactic
import Derived.Outline
import Derived.Laws.AppendOwn
set_option linter.unusedVariables false
namespace Go.Proofs.Ytgacfihidpijeaa.UM
open Go.RowKit

theorem infoByte : (Try.prog.info? 5).map (fun i => (i.zero, i.size, i.bytes)) = some (some (.int .u8 0), 1, 1) := by kernel_rfl

/-- What an append of a rune's bytes leaves. -/
def Appended (B : Nat) (v : Value) (n : Nat) (xs : List Value) (r : Int) (w : World) (e : Ending) (w' : World) : Prop :=
  ∃ v', e = .returned v' ∧ w'.ownsRow B 5 1 v' (n + (Lib.runeCells r).length) (xs ++ Lib.runeCells r) ∧ ∃ o, (w.alloc o).grownBy w' v.ownBlock

theorem cells_one {r : Int} (h0 : 0 ≤ r) (h1 : r ≤ 127) : Lib.runeCells r = [.int .u8 r] := by unfold Lib.runeCells; rw [Lib.encodeRuneZ_one h0 h1]; rfl
theorem cells_two {r : Int} (h0 : 128 ≤ r) (h1 : r ≤ 2047) : Lib.runeCells r = [.int .u8 (192 + r / 64), .int .u8 (128 + r % 64)] := by unfold Lib.runeCells; rw [Lib.encodeRuneZ_two h0 h1]; rfl
theorem cells_three {r : Int} (h : (2048 ≤ r ∧ r < 55296) ∨ (57343 < r ∧ r ≤ 65535)) : Lib.runeCells r = [.int .u8 (224 + r / 4096), .int .u8 (128 + r / 64 % 64), .int .u8 (128 + r % 64)] := by unfold Lib.runeCells; rw [Lib.encodeRuneZ_three h]; rfl
theorem cells_four {r : Int} (h0 : 65536 ≤ r) (h1 : r ≤ 1114111) : Lib.runeCells r = [.int .u8 (240 + r / 262144), .int .u8 (128 + r / 4096 % 64), .int .u8 (128 + r / 64 % 64), .int .u8 (128 + r % 64)] := by unfold Lib.runeCells; rw [Lib.encodeRuneZ_four h0 h1]; rfl
theorem cells_norm (r : Int) : Lib.runeCells (norm r) = Lib.runeCells r := by unfold Lib.runeCells; rw [encodeRuneZ_norm]

set_option maxHeartbeats 4000000 in
set_option maxRecDepth 100000 in
theorem put_one (B : Nat) (v : Value) (n : Nat) (xs : List Value) (r : Int) (h0 : 0 ≤ r) (h1 : r ≤ 127) (w : World) (hown : w.ownsRow B 5 1 v n xs) (hlen : n + 4 ≤ 140737488355328) (hBw : B ≤ w.heap.size) :
    Calls Try.prog 102 #[v, .int .i64 r] w (Appended B v n xs r w) := by
  unfold Appended
  rw [cells_one h0 h1]
  obtain ⟨i0, hi, hz0, hz1, hz2⟩ := info_parts infoByte
  have s1 : ¬ r < 0 := by omega
  have s2 : ¬ 1114111 < r := by omega
  have s3 : ¬ 55296 ≤ r := by omega
  go_enter Try.func102, Try.ntmps102
  go_wp2_with (at_builtin; refine wpList_append_own _ rfl _ _ 40 rfl B 5 i0 (.int .u8 0) 1 1 Try.underlying40 hi hz0 hz1 hz2 rfl (by decide) _ _ _ rfl (hown.alloc _) ⟨w.heap.size, 0, none⟩ 1 1 [.int .u8 r] rfl rfl ?c1 ?c2 ?c3 ?c4 ?c5 ?_)
  case c2 => rfl
  case c3 => unfold maxLen; omega
  case c4 => omega
  case c5 => omega
  intro v' w2 hown' hgrow _
  go_wp2
  go_ret
  exact ⟨_, rfl, hown', _, hgrow⟩
set_option maxHeartbeats 4000000 in
set_option maxRecDepth 100000 in
theorem put_two (B : Nat) (v : Value) (n : Nat) (xs : List Value) (r : Int) (h0 : 128 ≤ r) (h1 : r ≤ 2047) (w : World) (hown : w.ownsRow B 5 1 v n xs) (hlen : n + 4 ≤ 140737488355328) (hBw : B ≤ w.heap.size) :
    Calls Try.prog 102 #[v, .int .i64 r] w (Appended B v n xs r w) := by
  unfold Appended
  rw [cells_two h0 h1]
  obtain ⟨i0, hi, hz0, hz1, hz2⟩ := info_parts infoByte
  have s1 : ¬ r < 0 := by omega
  have s2 : ¬ 1114111 < r := by omega
  have s3 : ¬ 55296 ≤ r := by omega
  have s4 : ¬ r < 128 := by omega
  go_enter Try.func102, Try.ntmps102
  go_wp2_with (at_builtin; refine wpList_append_own _ rfl _ _ 40 rfl B 5 i0 (.int .u8 0) 1 1 Try.underlying40 hi hz0 hz1 hz2 rfl (by decide) _ _ _ rfl (hown.alloc _) ⟨w.heap.size, 0, none⟩ 2 2 [.int .u8 (192 + r / 64), .int .u8 (128 + r % 64)] rfl rfl ?c1 ?c2 ?c3 ?c4 ?c5 ?_)
  case c2 => exact ⟨rfl, rfl⟩
  case c3 => unfold maxLen; omega
  case c4 => omega
  case c5 => omega
  intro v' w2 hown' hgrow _
  go_wp2
  go_ret
  exact ⟨_, rfl, hown', _, hgrow⟩
set_option maxHeartbeats 4000000 in
set_option maxRecDepth 100000 in
theorem put_lo (B : Nat) (v : Value) (n : Nat) (xs : List Value) (r : Int) (h0 : 2048 ≤ r) (h1 : r < 55296) (w : World) (hown : w.ownsRow B 5 1 v n xs) (hlen : n + 4 ≤ 140737488355328) (hBw : B ≤ w.heap.size) :
    Calls Try.prog 102 #[v, .int .i64 r] w (Appended B v n xs r w) := by
  unfold Appended
  rw [cells_three (by omega)]
  obtain ⟨i0, hi, hz0, hz1, hz2⟩ := info_parts infoByte
  have s1 : ¬ r < 0 := by omega
  have s2 : ¬ 1114111 < r := by omega
  have s3 : ¬ 55296 ≤ r := by omega
  have s4 : ¬ r < 128 := by omega
  have s5 : ¬ r < 2048 := by omega
  have s6 : r < 65536 := by omega
  go_enter Try.func102, Try.ntmps102
  go_wp2_with (at_builtin; refine wpList_append_own _ rfl _ _ 40 rfl B 5 i0 (.int .u8 0) 1 1 Try.underlying40 hi hz0 hz1 hz2 rfl (by decide) _ _ _ rfl (hown.alloc _) ⟨w.heap.size, 0, none⟩ 3 3 [.int .u8 (224 + r / 4096), .int .u8 (128 + r / 64 % 64), .int .u8 (128 + r % 64)] rfl rfl ?c1 ?c2 ?c3 ?c4 ?c5 ?_)
  case c2 => exact ⟨rfl, rfl, rfl⟩
  case c3 => unfold maxLen; omega
  case c4 => omega
  case c5 => omega
  intro v' w2 hown' hgrow _
  go_wp2
  go_ret
  exact ⟨_, rfl, hown', _, hgrow⟩
set_option maxHeartbeats 4000000 in
set_option maxRecDepth 100000 in
theorem put_hi (B : Nat) (v : Value) (n : Nat) (xs : List Value) (r : Int) (h0 : 57343 < r) (h1 : r ≤ 65535) (w : World) (hown : w.ownsRow B 5 1 v n xs) (hlen : n + 4 ≤ 140737488355328) (hBw : B ≤ w.heap.size) :
    Calls Try.prog 102 #[v, .int .i64 r] w (Appended B v n xs r w) := by
  unfold Appended
  rw [cells_three (by omega)]
  obtain ⟨i0, hi, hz0, hz1, hz2⟩ := info_parts infoByte
  have s1 : ¬ r < 0 := by omega
  have s2 : ¬ 1114111 < r := by omega
  have s3 : 55296 ≤ r := by omega
  have s3' : ¬ r ≤ 57343 := by omega
  have s4 : ¬ r < 128 := by omega
  have s5 : ¬ r < 2048 := by omega
  have s6 : r < 65536 := by omega
  go_enter Try.func102, Try.ntmps102
  go_wp2_with (at_builtin; refine wpList_append_own _ rfl _ _ 40 rfl B 5 i0 (.int .u8 0) 1 1 Try.underlying40 hi hz0 hz1 hz2 rfl (by decide) _ _ _ rfl (hown.alloc _) ⟨w.heap.size, 0, none⟩ 3 3 [.int .u8 (224 + r / 4096), .int .u8 (128 + r / 64 % 64), .int .u8 (128 + r % 64)] rfl rfl ?c1 ?c2 ?c3 ?c4 ?c5 ?_)
  case c2 => exact ⟨rfl, rfl, rfl⟩
  case c3 => unfold maxLen; omega
  case c4 => omega
  case c5 => omega
  intro v' w2 hown' hgrow _
  go_wp2
  go_ret
  exact ⟨_, rfl, hown', _, hgrow⟩
set_option maxHeartbeats 4000000 in
set_option maxRecDepth 100000 in
theorem put_four (B : Nat) (v : Value) (n : Nat) (xs : List Value) (r : Int) (h0 : 65536 ≤ r) (h1 : r ≤ 1114111) (w : World) (hown : w.ownsRow B 5 1 v n xs) (hlen : n + 4 ≤ 140737488355328) (hBw : B ≤ w.heap.size) :
    Calls Try.prog 102 #[v, .int .i64 r] w (Appended B v n xs r w) := by
  unfold Appended
  rw [cells_four h0 h1]
  obtain ⟨i0, hi, hz0, hz1, hz2⟩ := info_parts infoByte
  have s1 : ¬ r < 0 := by omega
  have s2 : ¬ 1114111 < r := by omega
  have s3 : 55296 ≤ r := by omega
  have s3' : ¬ r ≤ 57343 := by omega
  have s4 : ¬ r < 128 := by omega
  have s5 : ¬ r < 2048 := by omega
  have s6 : ¬ r < 65536 := by omega
  go_enter Try.func102, Try.ntmps102
  go_wp2_with (at_builtin; refine wpList_append_own _ rfl _ _ 40 rfl B 5 i0 (.int .u8 0) 1 1 Try.underlying40 hi hz0 hz1 hz2 rfl (by decide) _ _ _ rfl (hown.alloc _) ⟨w.heap.size, 0, none⟩ 4 4 [.int .u8 (240 + r / 262144), .int .u8 (128 + r / 4096 % 64), .int .u8 (128 + r / 64 % 64), .int .u8 (128 + r % 64)] rfl rfl ?c1 ?c2 ?c3 ?c4 ?c5 ?_)
  case c2 => exact ⟨rfl, rfl, rfl, rfl⟩
  case c3 => unfold maxLen; omega
  case c5 => omega
  intro v' w2 hown' hgrow _
  go_wp2
  go_ret
  exact ⟨_, rfl, hown', _, hgrow⟩

theorem appended_norm {B : Nat} {v : Value} {n : Nat} {xs : List Value} {r q : Int} {w : World} {e : Ending} {w' : World} (hq : norm r = q) (h : Appended B v n xs q w e w') : Appended B v n xs r w e w' := by
  subst hq
  unfold Appended at *
  rw [cells_norm] at h
  exact h

set_option maxHeartbeats 4000000 in
set_option maxRecDepth 100000 in
theorem put_any (B : Nat) (v : Value) (n : Nat) (xs : List Value) (r : Int) (w : World) (hown : w.ownsRow B 5 1 v n xs) (hlen : n + 4 ≤ 140737488355328) (hBw : B ≤ w.heap.size) :
    Calls Try.prog 102 #[v, .int .i64 r] w (Appended B v n xs r w) := by
  have bad := put_hi B v n xs 65533 (by omega) (by omega) w hown hlen hBw
  by_cases c1 : r < 0
  · have hq : norm r = 65533 := by unfold norm; rw [if_pos (by omega)]
    have Hq := Lib.hid hq
    have Hb := Lib.hid bad
    clear hq bad hown
    go_enter Try.func102, Try.ntmps102
    go_wp2_with fail
    refine Hb.out.mono ?_
    rintro e w' he
    obtain ⟨v', rfl, hx⟩ := he
    have H2 := Lib.hid hx
    clear hx
    go_wp2
    go_ret
    exact appended_norm Hq.out ⟨v', rfl, H2.out⟩
  by_cases c2 : 1114111 < r
  · have hq : norm r = 65533 := by unfold norm; rw [if_pos (by omega)]
    have Hq := Lib.hid hq
    have Hb := Lib.hid bad
    clear hq bad hown
    go_enter Try.func102, Try.ntmps102
    go_wp2_with fail
    refine Hb.out.mono ?_
    rintro e w' he
    obtain ⟨v', rfl, hx⟩ := he
    have H2 := Lib.hid hx
    clear hx
    go_wp2
    go_ret
    exact appended_norm Hq.out ⟨v', rfl, H2.out⟩
  by_cases c3 : r ≤ 127
  · exact put_one B v n xs r (by omega) c3 w hown hlen hBw
  by_cases c4 : r ≤ 2047
  · exact put_two B v n xs r (by omega) c4 w hown hlen hBw
  by_cases c5 : r < 55296
  · exact put_lo B v n xs r (by omega) c5 w hown hlen hBw
  by_cases c6 : r ≤ 57343
  · have hq : norm r = 65533 := by unfold norm; rw [if_pos (by omega)]
    have c5' : 55296 ≤ r := by omega
    have Hq := Lib.hid hq
    have Hb := Lib.hid bad
    clear hq bad hown
    go_enter Try.func102, Try.ntmps102
    go_wp2_with fail
    refine Hb.out.mono ?_
    rintro e w' he
    obtain ⟨v', rfl, hx⟩ := he
    have H2 := Lib.hid hx
    clear hx
    go_wp2
    go_ret
    exact appended_norm Hq.out ⟨v', rfl, H2.out⟩
  by_cases c7 : r ≤ 65535
  · exact put_hi B v n xs r (by omega) c7 w hown hlen hBw
  · exact put_four B v n xs r (by omega) (by omega) w hown hlen hBw

/-- A number as a rune of the language: one that has no bytes of its own but is no surrogate half is 65533. -/
def enco (r : Int) : Int := if r < 0 ∨ 1114111 < r then 65533 else r
theorem enco_cells (r : Int) : Lib.runeCells (enco r) = Lib.runeCells r := by
  unfold enco
  split
  · rename_i h
    have : norm r = 65533 := by unfold norm; rw [if_pos (by omega)]
    rw [← this, cells_norm]
  · rfl
theorem enco_bd (r : Int) : -2147483648 ≤ enco r ∧ enco r ≤ 2147483647 := by unfold enco; split <;> omega
theorem encodable_any (r : Int) (w : World) : Calls Try.prog 120 #[.int .i64 r] w fun e w' => e = .returned (.int .i32 (enco r)) ∧ w = w' := by
  unfold enco
  by_cases c1 : r < 0
  · rw [if_pos (by omega)]
    go_enter Try.func120, Try.ntmps120
    go_wp2
    go_ret
    exact ⟨rfl, rfl⟩
  · by_cases c2 : 1114111 < r
    · rw [if_pos (by omega)]
      go_enter Try.func120, Try.ntmps120
      go_wp2
      go_ret
      exact ⟨rfl, rfl⟩
    · rw [if_neg (by omega)]
      have c3 : 0 ≤ r := by omega
      have c4 : r ≤ 1114111 := by omega
      go_enter Try.func120, Try.ntmps120
      go_wp2
      go_ret
      exact ⟨rfl, rfl⟩
end Go.Proofs.Ytgacfihidpijeaa.UM
