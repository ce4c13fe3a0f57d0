/-
  The reference's reading of one rune (more, row, Decode): each returns what the plain lists say. Conditions: places within the text's length.
-/
import Derived.Test.YtgacfihidpijeaaProg
import Derived.Test.YtgacfihidpijeaaZE6
import Derived.WalkKit
import Derived.Below
import Derived.Lib.Hide
import Derived.LoopTactic
import Derived.Outline
import Derived.Shelf.Unicode.DecodeSlow
set_option linter.unusedVariables false
namespace Go.Proofs.Ytgacfihidpijeaa.UM
open Go.RowKit

/-- Is there a byte 10xxxxxx at the place? -/
def contB (s : ByteArray) (a : Nat) : Bool := decide (a < s.size ∧ (s.get! a).toNat / 64 = 2)

theorem more_no (s : ByteArray) (p : Int) (a : Nat) (n : Int) (w : World) (hp : p = (a : Int)) (h0 : a < 9000000000000000000) (h : contB s a = false) :
    Calls Try.prog 113 #[.string s, .int .i64 p, .int .i64 n] w fun e w' => e = .returned (.tuple #[.int .i64 0, .bool false]) ∧ w = w' := by
  subst hp
  unfold contB at h
  by_cases hl : a < s.size
  · obtain ⟨x, hx⟩ : ∃ x, s.get! a = x := ⟨_, rfl⟩
    have hs0 : s[a]'hl = x := by rw [← hx]; exact (Utf8W.get!_of_lt s a hl).symm
    have hd : ((x.toNat : Int) / 64 == 2) = false := by rw [hx] at h; simp at h ⊢; have := h hl; omega
    have hd2 : ((x.toNat : Int) / 64 != 2) = true := by rw [bne, hd]; rfl
    have hb : (x.toNat : Int) < 256 := by have := x.toNat_lt; omega
    clear h hx
    go_enter Try.func113, Try.ntmps113
    go_wp2
    go_ret2
    exact ⟨rfl, rfl⟩
  · have hl2 : s.size ≤ a := by omega
    clear h
    go_enter Try.func113, Try.ntmps113
    go_wp2
    go_ret2
    exact ⟨rfl, rfl⟩

set_option maxRecDepth 100000 in
theorem more_yes (s : ByteArray) (p : Int) (a : Nat) (n : Int) (w : World) (hp : p = (a : Int)) (hn0 : 0 ≤ n) (hn1 : n ≤ 1000000) (h : contB s a = true) :
    Calls Try.prog 113 #[.string s, .int .i64 p, .int .i64 n] w fun e w' => e = .returned (.tuple #[.int .i64 (n * 64 + ((s.get! a).toNat % 64 : Nat)), .bool true]) ∧ w = w' := by
  subst hp
  unfold contB at h
  obtain ⟨x, hx⟩ : ∃ x, s.get! a = x := ⟨_, rfl⟩
  have h2 := of_decide_eq_true h
  have hl := h2.1
  have hs0 : s[a]'hl = x := by rw [← hx]; exact (Utf8W.get!_of_lt s a hl).symm
  rw [hx] at h2 ⊢
  have hd : ((x.toNat : Int) / 64 == 2) = true := by simp; omega
  have hd2 : ((x.toNat : Int) / 64 != 2) = false := by rw [bne, hd]; rfl
  have hb : (x.toNat : Int) < 256 := by have := x.toNat_lt; omega
  have hq : ((x.toNat : Int) % 64) = ((x.toNat % 64 : Nat) : Int) := by omega
  have Hq := Lib.hid hq
  clear h hx h2 hq
  go_enter Try.func113, Try.ntmps113
  go_wp2
  go_ret2
  rw [Hq.out]
  exact ⟨rfl, rfl⟩

/-- The x's of so many bytes 10xxxxxx from a place on, behind n. -/
def rowF (s : ByteArray) : Nat → Nat → Int → Int × Bool
  | 0, _, n => (n, true)
  | k + 1, a, n => if contB s a then rowF s k (a + 1) (n * 64 + ((s.get! a).toNat % 64 : Nat)) else (0, false)
theorem rowF_zero (s : ByteArray) (a : Nat) (n : Int) : rowF s 0 a n = (n, true) := rfl
theorem rowF_yes (s : ByteArray) (k a : Nat) (n : Int) (h : contB s a = true) : rowF s (k + 1) a n = rowF s k (a + 1) (n * 64 + ((s.get! a).toNat % 64 : Nat)) := by rw [rowF, if_pos h]
theorem rowF_no (s : ByteArray) (k a : Nat) (n : Int) (h : contB s a = false) : rowF s (k + 1) a n = (0, false) := by rw [rowF, if_neg (by simp [h])]

/-- How great the x's of j bytes behind a first one's can be. -/
def RowB (j : Nat) (m : Int) : Prop := 0 ≤ m ∧ ((j = 0 ∧ m ≤ 31) ∨ (j = 1 ∧ m ≤ 2047) ∨ (j = 2 ∧ m ≤ 131071) ∨ (j = 3 ∧ m ≤ 8388607))
theorem RowB.lo {j : Nat} {m : Int} (h : RowB j m) : 0 ≤ m := h.1
theorem RowB.hi {j : Nat} {m : Int} (h : RowB j m) (hj : j < 3) : m ≤ 1000000 := by unfold RowB at h; omega
theorem RowB.next {j : Nat} {m : Int} (h : RowB j m) (hj : j < 3) (x : Nat) : RowB (j + 1) (m * 64 + (x % 64 : Nat)) := by unfold RowB at *; omega

set_option maxRecDepth 100000 in
set_option maxHeartbeats 1000000 in
theorem row_any (s : ByteArray) (a k : Nat) (n z : Int) (w : World) (hz : z = (k : Int) + 1) (hk : k ≤ 3) (hn0 : 0 ≤ n) (hn1 : n ≤ 31) (ha : a < 8000000000000000000) :
    Calls Try.prog 101 #[.string s, .int .i64 a, .int .i64 n, .int .i64 z] w fun e w' => e = .returned (.tuple #[.int .i64 (rowF s k (a + 1) n).1, .bool (rowF s k (a + 1) n).2]) ∧ w = w' := by
  subst hz
  have B0 : RowB 0 n := ⟨hn0, by omega⟩
  clear hn0 hn1
  obtain ⟨res, hres⟩ : ∃ res, rowF s k (a + 1) n = res := ⟨_, rfl⟩
  have Hres := Lib.hid hres
  rw [hres]
  clear hres
  go_enter Try.func101, Try.ntmps101
  go_wp2
  go_loop [2, 10] (fun u i => ∃ (j : Nat) (m : Int), j ≤ k ∧ i = .int .i64 ((j : Int) + 1) ∧ u = .int .i64 m ∧ RowB j m ∧ Hid (rowF s (k - j) (a + 1 + j) m = res)) (fun _ i => k + 1 - (intOf i).toNat)
  case atStart => exact ⟨0, n, by omega, rfl, rfl, B0, by have := Hres.out; exact this⟩
  case round =>
    obtain ⟨j, m, hj, rfl, rfl, hB, HR⟩ := hrel
    clear Hres B0
    have hm0 := hB.lo
    by_cases hlt : j < k
    · have hm1 := hB.hi (by omega)
      obtain ⟨q, hq⟩ : ∃ q, k - j = q + 1 := ⟨k - j - 1, by omega⟩
      have hR := HR.out
      rw [hq] at hR
      by_cases hc : contB s (a + 1 + j) = true
      · rw [rowF_yes _ _ _ _ hc] at hR
        have hB1 := hB.next (by omega) (s.get! (a + 1 + j)).toNat
        obtain ⟨m2, hm2⟩ : ∃ m2, m * 64 + (((s.get! (a + 1 + j)).toNat % 64 : Nat) : Int) = m2 := ⟨_, rfl⟩
        have hmore := fun W => more_yes s ((a : Int) + ((j : Int) + 1)) (a + 1 + j) m W (by omega) hm0 hm1 hc
        rw [hm2] at hR hB1
        simp only [hm2] at hmore
        clear hm2
        have HR' := Lib.hid hR
        have Hq := Lib.hid hq
        have Hm := Lib.hid hmore
        clear hR HR hc hq hmore
        go_wp2_with fail
        refine (Hm.out _).mono ?_
        rintro e w' ⟨rfl, rfl⟩
        go_wp2
        go_round
        case rel => exact ⟨j + 1, m2, by omega, by go_num, rfl, hB1, by have h1 := Hq.out; have h2 := HR'.out; rw [show k - (j + 1) = q by omega, show a + 1 + (j + 1) = a + 1 + j + 1 by omega]; exact h2⟩
        case measure => simp [intOf]; omega
      · have hc : contB s (a + 1 + j) = false := by simpa using hc
        rw [rowF_no _ _ _ _ hc] at hR
        have hmore := fun W => more_no s ((a : Int) + ((j : Int) + 1)) (a + 1 + j) m W (by omega) (by omega) hc
        have HR' := Lib.hid hR
        have Hq := Lib.hid hq
        have Hm := Lib.hid hmore
        clear hR HR hc hq hmore
        go_wp2_with fail
        refine (Hm.out _).mono ?_
        rintro e w' ⟨rfl, rfl⟩
        go_wp2
        go_ret2
        rw [← HR'.out]
        exact ⟨rfl, rfl⟩
    · obtain rfl : j = k := by omega
      have hR := HR.out
      rw [Nat.sub_self, rowF_zero] at hR
      have HR' := Lib.hid hR
      clear hR HR
      go_wp2
      go_ret2
      rw [← HR'.out]
      exact ⟨rfl, rfl⟩
end Go.Proofs.Ytgacfihidpijeaa.UM
