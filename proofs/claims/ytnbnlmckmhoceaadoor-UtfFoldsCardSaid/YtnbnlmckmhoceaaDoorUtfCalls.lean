/-
  The other calls of layer 1 (Decode, Fold, Valid, the reference's, SameInts, cut): what each returns, by the plain lists. Conditions: texts of at most a million bytes; the two tables of unicode/utf8 hold what their initialisers lay.
-/
import Derived.Test.YtnbnlmckmhoceaaDoorUtfRunes
import Derived.Test.YtnbnlmckmhoceaaDoorUtfLower
import Derived.Test.YtnbnlmckmhoceaaDoorUtfWord
import Derived.Deep.QuietTactic
import Derived.BigQuiet
import Derived.Lib.ValidAsc
import Derived.Shelf.Unicode.DecodeAny
set_option linter.unusedVariables false
namespace Go.Proofs.YtnbnlmckmhoceaaDoor.UM
open Go.RowKit

/-! ### cut -/
def cutS (s : ByteArray) : ByteArray := s.extract 0 (min s.size 2000)
theorem cutS_size (s : ByteArray) : (cutS s).size ≤ 2000 := by simp [cutS]; omega
theorem cut_any (s : ByteArray) (w : World) (hs : s.size ≤ maxLen) : Calls Tryd.prog 7 #[.string s] w fun e w' => e = .returned (.string (cutS s)) ∧ w' = w := by
  unfold maxLen at hs
  have e : (min (s.size : Int) 2000).toNat = min s.size 2000 := by omega
  unfold cutS
  have E := Lib.hid e
  clear e
  go_enter Tryd.func7, Tryd.ntmps7
  go_wp2
  go_ret
  rw [← E.out]
  exact ⟨rfl, rfl⟩

/-! ### Decode -/
theorem decodeGo_at (s : ByteArray) (a : Nat) (h : a < s.size) : Lib.decodeGo (s.extract a s.size) = Utf8.decode s a := by
  have hz : (s.extract a s.size).size = s.size - a := Lib.ext_size s a
  unfold Lib.decodeGo
  rw [if_neg (by omega), ← Lib.decodeL_drop, ← Lib.decodeL_drop, List.drop_zero, Lib.ext_list]
theorem dec_out (s : ByteArray) (p : Int) (w : World) (hp : p < 0 ∨ s.size ≤ p) :
    Calls Tryd.prog 8 #[.string s, .int .i64 p] w fun e w' => e = .returned (.tuple #[.int .i64 0, .int .i64 0]) ∧ w = w' := by
  rcases hp with hp | hp
  · go_enter Tryd.func8, Tryd.ntmps8
    go_wp2
    go_ret2
    exact ⟨rfl, rfl⟩
  · have h0 : ¬ p < 0 := by omega
    go_enter Tryd.func8, Tryd.ntmps8
    go_wp2
    go_ret2
    exact ⟨rfl, rfl⟩
set_option maxRecDepth 100000 in
theorem dec_in (s : ByteArray) (a : Nat) (w : World) (hs : s.size ≤ 1000000) (hl : a < s.size) (hT : Lib.Utf8Tabs 0 1 w) :
    Calls Tryd.prog 8 #[.string s, .int .i64 a] w fun e w' => e = .returned (.tuple #[.int .i64 (Utf8.decode s a).1, .int .i64 (Utf8.decode s a).2]) ∧ Below w.heap.size w w' := by
  have hd := Tryd.utf8_DecodeRuneInString (s.extract a s.size) w hT
  rw [decodeGo_at s a hl] at hd
  have hle := decode_le s a
  obtain ⟨r, hr⟩ : ∃ r, (Utf8.decode s a).1 = r := ⟨_, rfl⟩
  obtain ⟨d, hdd⟩ : ∃ d, (Utf8.decode s a).2 = d := ⟨_, rfl⟩
  rw [hr] at hle
  rw [hr, hdd] at hd ⊢
  have HD := Lib.hid hd
  clear hd hr hdd hT
  go_enter Tryd.func8, Tryd.ntmps8
  go_wp2_with fail
  refine HD.out.mono ?_
  rintro e w' ⟨rfl, hb⟩
  go_wp2
  go_ret2
  exact ⟨rfl, hb⟩

/-! ### SameInts -/
set_option maxRecDepth 100000 in
set_option maxHeartbeats 1000000 in
theorem same_any (u v : Value) (zs : List Int) (w : World) (hu : IntRow w u zs) (hv : IntRow w v zs) (hn : zs.length ≤ 1000000) :
    Calls Tryd.prog 10 #[u, v] w fun e w' => e = .returned (.bool true) ∧ Below w.heap.size w w' := by
  obtain ⟨p, cp, rfl, hp⟩ := hu
  obtain ⟨q, cq, rfl, hq⟩ := hv
  have HP := Lib.hid hp
  have HQ := Lib.hid hq
  clear hp hq
  go_enter Tryd.func10, Tryd.ntmps10
  go_wp2
  go_loopw [5] (fun i wr => ∃ k : Nat, k ≤ zs.length ∧ i = .int .i64 k ∧ Below w.heap.size w wr) (fun i _ => zs.length - (intOf i).toNat)
  case atStart => exact ⟨0, Nat.zero_le _, rfl, Below.refl _ _⟩
  case round =>
    obtain ⟨k, hk, rfl, hb⟩ := hrel
    by_cases hlt : k < zs.length
    · have hne : ¬ zs = [] := by intro h; rw [h] at hlt; simp at hlt
      rcases HP.out with h | ⟨b, off, rfl, hbl, hc⟩
      · exact absurd h hne
      rcases HQ.out with h | ⟨b2, off2, rfl, hbl2, hc2⟩
      · exact absurd h hne
      have hcell := hc k hlt
      rw [← hb.cell (p := ⟨b, off + k, none⟩) hbl] at hcell
      have hcell2 := hc2 k hlt
      rw [← hb.cell (p := ⟨b2, off2 + k, none⟩) hbl2] at hcell2
      obtain ⟨r, hr⟩ : ∃ r, zs.getD k 0 = r := ⟨_, rfl⟩
      rw [hr] at hcell hcell2
      have hltz : (k : Int) < (zs.length : Int) := by omega
      clear hr hc hc2 hne
      go_wp2
      go_quiet (fail)
      go_wp2
      go_roundw
      case rel => exact ⟨k + 1, by omega, by go_num, below_drewN hb _⟩
      case measure => simp [intOf]; omega
    · obtain rfl : k = zs.length := by omega
      go_wp2
      go_ret
      exact ⟨rfl, hb⟩
end Go.Proofs.YtnbnlmckmhoceaaDoor.UM
