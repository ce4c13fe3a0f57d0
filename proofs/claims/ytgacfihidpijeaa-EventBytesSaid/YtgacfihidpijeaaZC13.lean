/-
  Slices that read as lists of whole numbers. No condition. Slices that read as lists of texts. No condition. The reference's reading of one rune (more, row, Decode): each returns what the plain lists say. Conditions: places within the text's length.
-/
import Derived.Test.YtgacfihidpijeaaZC2
import Derived.Test.YtgacfihidpijeaaProg
import Derived.Test.YtgacfihidpijeaaZC8
import Derived.WalkKit
import Derived.Below
import Derived.Lib.Hide
import Derived.LoopTactic
import Derived.Outline
import Derived.Shelf.Unicode.DecodeSlow
set_option linter.unusedVariables false
namespace Go.Proofs.Ytgacfihidpijeaa.MM
open Go.RowKit

/-! ### whole numbers -/
theorem infoInt : (Try.prog.info? 3).map (fun i => (i.zero, i.size, i.bytes)) = some (some (.int .i64 0), 1, 8) := by kernel_rfl
/-- A slice value that reads as these numbers. -/
def IRow (w : World) (v : Value) (zs : List Int) : Prop := Row w v (zs.map (Value.int .i64))
def OwnI (B : Nat) (w : World) (v : Value) (zs : List Int) : Prop := w.ownsRow B 3 1 v zs.length (zs.map (Value.int .i64))
theorem OwnI.irow {B : Nat} {w : World} {v : Value} {zs : List Int} (h : OwnI B w v zs) : IRow w v zs := Row.of_own h
theorem OwnI.keep {w w' : World} {B : Nat} {v : Value} {zs : List Int} (h : OwnI B w v zs) (hb : Below w.heap.size w w') : OwnI B w' v zs := own_keep (B := 0) h hb
theorem OwnI.nil_ (B : Nat) (w : World) : OwnI B w (.slice none 0 0) [] := World.ownsRow_nil _ _ _ _
theorem IRow.below {w w' : World} {v : Value} {zs : List Int} (h : IRow w v zs) (hb : Below w.heap.size w w') : IRow w' v zs := Row.below (B := 0) h hb
theorem IRow.nil_ (w : World) : IRow w (.slice none 0 0) [] := Row.nil_ w
theorem IRow.shape {w : World} {v : Value} {zs : List Int} (h : IRow w v zs) : ∃ p cap, v = .slice p zs.length cap ∧ zs.length ≤ cap ∧ cap ≤ maxLen := by
  obtain ⟨p, cap, hv, h1, h2, _, _⟩ := h
  rw [List.length_map] at hv h1
  exact ⟨p, cap, hv, h1, h2⟩
theorem IRow.at_ {w : World} {p : Option Addr} {n cap : Nat} {zs : List Int} (h : IRow w (.slice p n cap) zs) {k : Nat} (hk : k < zs.length) :
    ∃ b off, p = some ⟨b, off, none⟩ ∧ b < w.heap.size ∧ w.cell? ⟨b, off + k, none⟩ = some (.int .i64 (zs.getD k 0)) := by
  obtain ⟨p', cap', hv, _, _, _, h⟩ := h
  simp only [Value.slice.injEq] at hv
  obtain ⟨rfl, _, _⟩ := hv
  rcases h with h | ⟨b, off, hp, hlt, hc⟩
  · have : zs = [] := List.map_eq_nil_iff.1 h
    subst this
    simp at hk
  · exact ⟨b, off, hp, hlt, hc k _ (by simp [List.getD, hk])⟩
theorem IRow.take {w : World} {p : Option Addr} {n cap : Nat} {zs : List Int} (h : IRow w (.slice p n cap) zs) (k : Nat) (hk : k ≤ n) : IRow w (.slice p k cap) (zs.take k) := by
  have := RowIn.take h k hk
  rw [← List.map_take] at this
  exact this
/-- append(row, n). -/
theorem wpList_append_int {w : World} {ops : Array Oper} {rest : List Oper} {o : Oper} {a : Act} {Q : Exit → Act → World → Prop} (hgd : o.guard = none) (s x : Operand)
    (ho : o.op = .call { callee := .builtin .append, args := #[s, x], argTypes := #[60, 60] }) (B : Nat) (v : Value) (zs : List Int) (w0 : World) (z : Int) (hw : w = w0.alloc (.cells #[.int .i64 z] 3)) (hs : a.eval s = v) (hown : OwnI B w0 v zs)
    (hx : a.eval x = .slice (some ⟨w0.heap.size, 0, none⟩) 1 1) (hlen : zs.length ≤ 4398046511104) (hbase : B ≤ w0.heap.size)
    (h : ∀ v' w', OwnI B w' v' (zs ++ [z]) → Below B w0 w' → wpList Try.prog ops Q rest (a.put o.dst v') w') : wpList Try.prog ops Q (o :: rest) a w := by
  subst hw
  obtain ⟨i0, hi, hz0, hz1, hz2⟩ := info_parts infoInt
  have hlo : ∀ k, v.ownBlock = some k → B ≤ k := fun k hk => (World.ownsRow.lt hown k hk).1
  refine wpList_append_own _ hgd s x 60 ho B 3 i0 (.int .i64 0) 1 8 Try.underlying60 hi hz0 hz1 hz2 rfl (by decide) v zs.length _ hs (World.ownsRow.alloc hown _) ⟨w0.heap.size, 0, none⟩ 1 1 [.int .i64 z] hx rfl (cell_new1 _ _ _) (int_one _ _)
    (by unfold maxLen; omega) (by omega) (by simp; omega) (fun v' w' h1 hg _ => h v' w' ?_ (below_app (Below.refl B w0) hbase hlo hg))
  unfold OwnI
  rw [List.length_append, List.map_append]
  exact h1
end Go.Proofs.Ytgacfihidpijeaa.MM
set_option linter.unusedVariables false
namespace Go.Proofs.Ytgacfihidpijeaa.MM
open Go.RowKit

theorem infoStr : (Try.prog.info? 9).map (fun i => (i.zero, i.size, i.bytes)) = some (some (.string ⟨#[]⟩), 1, 16) := by kernel_rfl
def strV (l : List UInt8) : Value := .string ⟨l.toArray⟩
/-- A slice value that reads as these texts, which lie below block B. -/
def TIn (B : Nat) (w : World) (v : Value) (ss : List (List UInt8)) : Prop := RowIn B w v (ss.map strV)
def TRow (w : World) (v : Value) (ss : List (List UInt8)) : Prop := TIn w.heap.size w v ss
/-- .. of the call's own, from block B on. -/
def OwnT (B : Nat) (w : World) (v : Value) (ss : List (List UInt8)) : Prop := w.ownsRow B 9 1 v ss.length (ss.map strV)
theorem OwnT.trow {B : Nat} {w : World} {v : Value} {ss : List (List UInt8)} (h : OwnT B w v ss) : TRow w v ss := Row.of_own h
theorem OwnT.keep {w w' : World} {B : Nat} {v : Value} {ss : List (List UInt8)} (h : OwnT B w v ss) (hb : Below w.heap.size w w') : OwnT B w' v ss := own_keep (B := 0) h hb
theorem OwnT.weaken {w : World} {B B' : Nat} {v : Value} {ss : List (List UInt8)} (h : OwnT B w v ss) (hB : B' ≤ B) : OwnT B' w v ss := by
  refine ⟨h.1, ?_⟩
  rcases h.2 with h0 | ⟨g, cap, cur, hv, hg, rest⟩
  · exact .inl h0
  · exact .inr ⟨g, cap, cur, hv, Nat.le_trans hB hg, rest⟩
theorem OwnT.nil_ (B : Nat) (w : World) : OwnT B w (.slice none 0 0) [] := World.ownsRow_nil _ _ _ _
theorem OwnT.shape {w : World} {B : Nat} {v : Value} {ss : List (List UInt8)} (h : OwnT B w v ss) : ∃ p cap, v = .slice p ss.length cap ∧ ss.length ≤ cap ∧ cap ≤ maxLen := by
  obtain ⟨p, cap, hv, h1, h2, _, _⟩ := h.trow
  rw [List.length_map] at hv h1
  exact ⟨p, cap, hv, h1, h2⟩
theorem TRow.below {w w' : World} {v : Value} {ss : List (List UInt8)} (h : TRow w v ss) (hb : Below w.heap.size w w') : TRow w' v ss := Row.below (B := 0) h hb
theorem TIn.below {B : Nat} {w w' : World} {v : Value} {ss : List (List UInt8)} (h : TIn B w v ss) (hb : Below B w w') : TIn B w' v ss := RowIn.below h hb
theorem TIn.mono {B B' : Nat} {w : World} {v : Value} {ss : List (List UInt8)} (h : TIn B w v ss) (hB : B ≤ B') : TIn B' w v ss := RowIn.mono h hB
theorem TRow.nil_ (w : World) : TRow w (.slice none 0 0) [] := Row.nil_ w
theorem TIn.shape {B : Nat} {w : World} {v : Value} {ss : List (List UInt8)} (h : TIn B w v ss) : ∃ p cap, v = .slice p ss.length cap ∧ ss.length ≤ cap ∧ cap ≤ maxLen := by
  obtain ⟨p, cap, hv, h1, h2, _, _⟩ := h
  rw [List.length_map] at hv h1
  exact ⟨p, cap, hv, h1, h2⟩
theorem TIn.at_ {B : Nat} {w : World} {p : Option Addr} {n cap : Nat} {ss : List (List UInt8)} (h : TIn B w (.slice p n cap) ss) {k : Nat} (hk : k < ss.length) :
    ∃ b off, p = some ⟨b, off, none⟩ ∧ b < B ∧ w.cell? ⟨b, off + k, none⟩ = some (.string ⟨(ss[k]).toArray⟩) := by
  obtain ⟨p', cap', hv, _, _, _, h⟩ := h
  simp only [Value.slice.injEq] at hv
  obtain ⟨rfl, _, _⟩ := hv
  rcases h with h | ⟨b, off, hp, hlt, hc⟩
  · have : ss = [] := List.map_eq_nil_iff.1 h
    subst this
    simp at hk
  · exact ⟨b, off, hp, hlt, hc k _ (by simp [hk, strV])⟩
/-- append(row, s). -/
theorem wpList_append_str {w : World} {ops : Array Oper} {rest : List Oper} {o : Oper} {a : Act} {Q : Exit → Act → World → Prop} (hgd : o.guard = none) (s x : Operand)
    (ho : o.op = .call { callee := .builtin .append, args := #[s, x], argTypes := #[124, 124] }) (B : Nat) (v : Value) (ss : List (List UInt8)) (w0 : World) (z : List UInt8) (hw : w = w0.alloc (.cells #[.string ⟨z.toArray⟩] 9)) (hs : a.eval s = v) (hown : OwnT B w0 v ss)
    (hx : a.eval x = .slice (some ⟨w0.heap.size, 0, none⟩) 1 1) (hlen : ss.length ≤ 1000000000000) (hbase : B ≤ w0.heap.size)
    (h : ∀ v' w', OwnT B w' v' (ss ++ [z]) → Below B w0 w' → wpList Try.prog ops Q rest (a.put o.dst v') w') : wpList Try.prog ops Q (o :: rest) a w := by
  subst hw
  obtain ⟨i0, hi, hz0, hz1, hz2⟩ := info_parts infoStr
  have hlo : ∀ k, v.ownBlock = some k → B ≤ k := fun k hk => (World.ownsRow.lt hown k hk).1
  refine wpList_append_own _ hgd s x 124 ho B 9 i0 (.string ⟨#[]⟩) 1 16 Try.underlying124 hi hz0 hz1 hz2 rfl (by decide) v ss.length _ hs (World.ownsRow.alloc hown _) ⟨w0.heap.size, 0, none⟩ 1 1 [.string ⟨z.toArray⟩] hx rfl (cell_new1 _ _ _) (by intro u hu; simp at hu; subst hu; rfl)
    (by unfold maxLen; omega) (by omega) (by simp; omega) (fun v' w' h1 hg _ => h v' w' ?_ (below_app (Below.refl B w0) hbase hlo hg))
  unfold OwnT
  rw [List.length_append, List.map_append]
  exact h1
/-- A literal of one text. -/
theorem trow_one (w : World) (z : List UInt8) : TRow (w.alloc (.cells #[.string ⟨z.toArray⟩] 9)) (.slice (some ⟨w.heap.size, 0, none⟩) 1 1) [z] :=
  Row.of_own (own_lit w [.string ⟨z.toArray⟩] 9 0 (Nat.zero_le _) (by unfold maxLen; simp))
/-- Two texts held against each other, as the walk spells it. -/
theorem same_list (l m : List UInt8) : ((⟨l.toArray⟩ : ByteArray).toList == (⟨m.toArray⟩ : ByteArray).toList) = decide (l = m) := by
  rw [Lib.toList_data, Lib.toList_data]
  by_cases h : l = m
  · subst h; simp
  · simp [h]
end Go.Proofs.Ytgacfihidpijeaa.MM
set_option linter.unusedVariables false
namespace Go.Proofs.Ytgacfihidpijeaa.UM
open Go.RowKit

/-- Is there a byte 10xxxxxx at the place? -/
def contB (s : ByteArray) (a : Nat) : Bool := decide (a < s.size ∧ (s.get! a).toNat / 64 = 2)

theorem more_no (s : ByteArray) (p : Int) (a : Nat) (n : Int) (w : World) (hp : p = (a : Int)) (h0 : a < 9000000000000000000) (h : contB s a = false) :
    Calls Try.prog 113 #[.string s, .int .i64 p, .int .i64 n] w fun e w' => e = .returned (.tuple #[.int .i64 0, .bool false]) ∧ w = w' := by
  subst hp
  unfold contB at h
  by_cases hl : a < s.size
  · obtain ⟨x, hx⟩ : ∃ x, s.get! a = x := ⟨_, rfl⟩
    have hs0 : s[a]'hl = x := by rw [← hx]; exact (Utf8W.get!_of_lt s a hl).symm
    have hd : ((x.toNat : Int) / 64 == 2) = false := by rw [hx] at h; simp at h ⊢; have := h hl; omega
    have hd2 : ((x.toNat : Int) / 64 != 2) = true := by rw [bne, hd]; rfl
    have hb : (x.toNat : Int) < 256 := by have := x.toNat_lt; omega
    clear h hx
    go_enter Try.func113, Try.ntmps113
    go_wp2
    go_ret2
    exact ⟨rfl, rfl⟩
  · have hl2 : s.size ≤ a := by omega
    clear h
    go_enter Try.func113, Try.ntmps113
    go_wp2
    go_ret2
    exact ⟨rfl, rfl⟩

set_option maxRecDepth 100000 in
theorem more_yes (s : ByteArray) (p : Int) (a : Nat) (n : Int) (w : World) (hp : p = (a : Int)) (hn0 : 0 ≤ n) (hn1 : n ≤ 1000000) (h : contB s a = true) :
    Calls Try.prog 113 #[.string s, .int .i64 p, .int .i64 n] w fun e w' => e = .returned (.tuple #[.int .i64 (n * 64 + ((s.get! a).toNat % 64 : Nat)), .bool true]) ∧ w = w' := by
  subst hp
  unfold contB at h
  obtain ⟨x, hx⟩ : ∃ x, s.get! a = x := ⟨_, rfl⟩
  have h2 := of_decide_eq_true h
  have hl := h2.1
  have hs0 : s[a]'hl = x := by rw [← hx]; exact (Utf8W.get!_of_lt s a hl).symm
  rw [hx] at h2 ⊢
  have hd : ((x.toNat : Int) / 64 == 2) = true := by simp; omega
  have hd2 : ((x.toNat : Int) / 64 != 2) = false := by rw [bne, hd]; rfl
  have hb : (x.toNat : Int) < 256 := by have := x.toNat_lt; omega
  have hq : ((x.toNat : Int) % 64) = ((x.toNat % 64 : Nat) : Int) := by omega
  have Hq := Lib.hid hq
  clear h hx h2 hq
  go_enter Try.func113, Try.ntmps113
  go_wp2
  go_ret2
  rw [Hq.out]
  exact ⟨rfl, rfl⟩

/-- The x's of so many bytes 10xxxxxx from a place on, behind n. -/
def rowF (s : ByteArray) : Nat → Nat → Int → Int × Bool
  | 0, _, n => (n, true)
  | k + 1, a, n => if contB s a then rowF s k (a + 1) (n * 64 + ((s.get! a).toNat % 64 : Nat)) else (0, false)
theorem rowF_zero (s : ByteArray) (a : Nat) (n : Int) : rowF s 0 a n = (n, true) := rfl
theorem rowF_yes (s : ByteArray) (k a : Nat) (n : Int) (h : contB s a = true) : rowF s (k + 1) a n = rowF s k (a + 1) (n * 64 + ((s.get! a).toNat % 64 : Nat)) := by rw [rowF, if_pos h]
theorem rowF_no (s : ByteArray) (k a : Nat) (n : Int) (h : contB s a = false) : rowF s (k + 1) a n = (0, false) := by rw [rowF, if_neg (by simp [h])]

/-- How great the x's of j bytes behind a first one's can be. -/
def RowB (j : Nat) (m : Int) : Prop := 0 ≤ m ∧ ((j = 0 ∧ m ≤ 31) ∨ (j = 1 ∧ m ≤ 2047) ∨ (j = 2 ∧ m ≤ 131071) ∨ (j = 3 ∧ m ≤ 8388607))
theorem RowB.lo {j : Nat} {m : Int} (h : RowB j m) : 0 ≤ m := h.1
theorem RowB.hi {j : Nat} {m : Int} (h : RowB j m) (hj : j < 3) : m ≤ 1000000 := by unfold RowB at h; omega
theorem RowB.next {j : Nat} {m : Int} (h : RowB j m) (hj : j < 3) (x : Nat) : RowB (j + 1) (m * 64 + (x % 64 : Nat)) := by unfold RowB at *; omega

set_option maxRecDepth 100000 in
set_option maxHeartbeats 1000000 in
theorem row_any (s : ByteArray) (a k : Nat) (n z : Int) (w : World) (hz : z = (k : Int) + 1) (hk : k ≤ 3) (hn0 : 0 ≤ n) (hn1 : n ≤ 31) (ha : a < 8000000000000000000) :
    Calls Try.prog 101 #[.string s, .int .i64 a, .int .i64 n, .int .i64 z] w fun e w' => e = .returned (.tuple #[.int .i64 (rowF s k (a + 1) n).1, .bool (rowF s k (a + 1) n).2]) ∧ w = w' := by
  subst hz
  have B0 : RowB 0 n := ⟨hn0, by omega⟩
  clear hn0 hn1
  obtain ⟨res, hres⟩ : ∃ res, rowF s k (a + 1) n = res := ⟨_, rfl⟩
  have Hres := Lib.hid hres
  rw [hres]
  clear hres
  go_enter Try.func101, Try.ntmps101
  go_wp2
  go_loop [2, 10] (fun u i => ∃ (j : Nat) (m : Int), j ≤ k ∧ i = .int .i64 ((j : Int) + 1) ∧ u = .int .i64 m ∧ RowB j m ∧ Hid (rowF s (k - j) (a + 1 + j) m = res)) (fun _ i => k + 1 - (intOf i).toNat)
  case atStart => exact ⟨0, n, by omega, rfl, rfl, B0, by have := Hres.out; exact this⟩
  case round =>
    obtain ⟨j, m, hj, rfl, rfl, hB, HR⟩ := hrel
    clear Hres B0
    have hm0 := hB.lo
    by_cases hlt : j < k
    · have hm1 := hB.hi (by omega)
      obtain ⟨q, hq⟩ : ∃ q, k - j = q + 1 := ⟨k - j - 1, by omega⟩
      have hR := HR.out
      rw [hq] at hR
      by_cases hc : contB s (a + 1 + j) = true
      · rw [rowF_yes _ _ _ _ hc] at hR
        have hB1 := hB.next (by omega) (s.get! (a + 1 + j)).toNat
        obtain ⟨m2, hm2⟩ : ∃ m2, m * 64 + (((s.get! (a + 1 + j)).toNat % 64 : Nat) : Int) = m2 := ⟨_, rfl⟩
        have hmore := fun W => more_yes s ((a : Int) + ((j : Int) + 1)) (a + 1 + j) m W (by omega) hm0 hm1 hc
        rw [hm2] at hR hB1
        simp only [hm2] at hmore
        clear hm2
        have HR' := Lib.hid hR
        have Hq := Lib.hid hq
        have Hm := Lib.hid hmore
        clear hR HR hc hq hmore
        go_wp2_with fail
        refine (Hm.out _).mono ?_
        rintro e w' ⟨rfl, rfl⟩
        go_wp2
        go_round
        case rel => exact ⟨j + 1, m2, by omega, by go_num, rfl, hB1, by have h1 := Hq.out; have h2 := HR'.out; rw [show k - (j + 1) = q by omega, show a + 1 + (j + 1) = a + 1 + j + 1 by omega]; exact h2⟩
        case measure => simp [intOf]; omega
      · have hc : contB s (a + 1 + j) = false := by simpa using hc
        rw [rowF_no _ _ _ _ hc] at hR
        have hmore := fun W => more_no s ((a : Int) + ((j : Int) + 1)) (a + 1 + j) m W (by omega) (by omega) hc
        have HR' := Lib.hid hR
        have Hq := Lib.hid hq
        have Hm := Lib.hid hmore
        clear hR HR hc hq hmore
        go_wp2_with fail
        refine (Hm.out _).mono ?_
        rintro e w' ⟨rfl, rfl⟩
        go_wp2
        go_ret2
        rw [← HR'.out]
        exact ⟨rfl, rfl⟩
    · obtain rfl : j = k := by omega
      have hR := HR.out
      rw [Nat.sub_self, rowF_zero] at hR
      have HR' := Lib.hid hR
      clear hR HR
      go_wp2
      go_ret2
      rw [← HR'.out]
      exact ⟨rfl, rfl⟩
end Go.Proofs.Ytgacfihidpijeaa.UM
