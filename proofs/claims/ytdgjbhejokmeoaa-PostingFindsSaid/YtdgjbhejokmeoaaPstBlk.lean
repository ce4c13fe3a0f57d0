/-
  The code's blocksOf: the blocks of a row. Condition: fewer than 10^9 posts.
-/
import Derived.Test.YtdgjbhejokmeoaaPstForm
set_option linter.unusedVariables false
namespace Go.Proofs.Ytdgjbhejokmeoaa.PW
open Go.RowKit Go.Proofs.Ytdgjbhejokmeoaa.MM Go.Proofs.Ytdgjbhejokmeoaa.PM

theorem infoPosts : (Try.prog.info? 22).map (fun i => (i.zero, i.size, i.bytes)) = some (some (.slice none 0 0), 1, 24) := by kernel_rfl
/-- Block i of a row that lies at off of block b. -/
def blkV (b off n cap i : Nat) : Value := .slice (some ⟨b, off + 64 * i, none⟩) (min 32 (n - 32 * i)) (cap - 32 * i)
def blksV (b off n cap c : Nat) : List Value := (List.range c).map (blkV b off n cap)
theorem blksV_len (b off n cap c : Nat) : (blksV b off n cap c).length = c := by simp [blksV]
theorem blksV_snoc (b off n cap c : Nat) : blksV b off n cap (c + 1) = blksV b off n cap c ++ [blkV b off n cap c] := by simp [blksV, List.range_succ]
theorem blksV_at (b off n cap c i : Nat) (h : i < c) : (blksV b off n cap c)[i]? = some (blkV b off n cap i) := by simp [blksV, h]
/-- A row of slices of posts of the call's own. -/
def OwnV (B : Nat) (w : World) (v : Value) (xs : List Value) : Prop := w.ownsRow B 22 1 v xs.length xs
def BlksLeft (b off n cap : Nat) (w : World) (e : Ending) (w' : World) : Prop := ∃ v, e = .returned v ∧ OwnV w.heap.size w' v (blksV b off n cap (cnt n)) ∧ Below w.heap.size w w'
theorem OwnV.row {B : Nat} {w : World} {v : Value} {xs : List Value} (h : OwnV B w v xs) : Row w v xs := Row.of_own h
theorem OwnV.at_ {B : Nat} {w : World} {p : Option Addr} {n cap : Nat} {xs : List Value} (h : OwnV B w (.slice p n cap) xs) {k : Nat} {u : Value} (hk : xs[k]? = some u) :
    ∃ g, p = some ⟨g, 0, none⟩ ∧ B ≤ g ∧ g < w.heap.size ∧ w.cell? ⟨g, k, none⟩ = some u ∧ ∃ cur fr, w.heap[g]? = some (.cells cur 22 fr) := by
  have hlt := (List.getElem?_eq_some_iff.1 hk).1
  rcases h.2 with ⟨hv, h0⟩ | ⟨g, cap', cur, hv, hg, hh, hnc, hm, hs, ht⟩
  · omega
  · simp only [Value.slice.injEq] at hv
    obtain ⟨rfl, _, _⟩ := hv
    refine ⟨g, rfl, hg, (Array.getElem?_eq_some_iff.1 hh).1, ?_, cur, _, hh⟩
    have := Lib.cells_of_row hh (xs.length * 1) k u (by rw [ht]; exact hk)
    rw [add_at, Nat.zero_add] at this
    exact this
theorem OwnV.shape {B : Nat} {w : World} {v : Value} {xs : List Value} (h : OwnV B w v xs) : ∃ p cap, v = .slice p xs.length cap ∧ xs.length ≤ cap ∧ cap ≤ maxLen := by
  rcases h.2 with ⟨rfl, h0⟩ | ⟨g, cap, cur, rfl, hg, hh, hn, hm, _⟩
  · exact ⟨none, 0, by rw [h0], by omega, by unfold maxLen; omega⟩
  · exact ⟨_, cap, rfl, hn, hm⟩
theorem wpList_append_blk {w : World} {ops : Array Oper} {rest : List Oper} {o : Oper} {a : Act} {Q : Exit → Act → World → Prop} (hgd : o.guard = none) (s x : Operand)
    (ho : o.op = .call { callee := .builtin .append, args := #[s, x], argTypes := #[59, 59] }) (B : Nat) (v : Value) (xs : List Value) (w0 : World) (u : Value) (hw : w = w0.alloc (.cells #[u] 22)) (hu : u.oneCell' = true) (hs : a.eval s = v) (hown : OwnV B w0 v xs)
    (hx : a.eval x = .slice (some ⟨w0.heap.size, 0, none⟩) 1 1) (hlen : xs.length ≤ 100000000000) (hbase : B ≤ w0.heap.size)
    (h : ∀ v' w', OwnV B w' v' (xs ++ [u]) → Below B w0 w' → wpList Try.prog ops Q rest (a.put o.dst v') w') : wpList Try.prog ops Q (o :: rest) a w := by
  subst hw
  obtain ⟨i0, hi, hz0, hz1, hz2⟩ := info_parts infoPosts
  have hb0 : Below w0.heap.size w0 (w0.alloc (.cells #[u] 22)) := (Below.refl _ _).alloc (Nat.le_refl _) _
  refine wpList_append_row hgd s x 59 ho B 22 i0 (.slice none 0 0) 24 Try.underlying59 hi hz0 hz1 hz2 rfl v xs.length xs hs (own_keep (B := 0) hown hb0) (.slice (some ⟨w0.heap.size, 0, none⟩) 1 1) [u] hx
    (Row.of_own (own_lit w0 [u] 22 0 (Nat.zero_le _) (by unfold maxLen; simp))) (fun y hy => by simp at hy; subst hy; exact hu)
    (by unfold maxLen; simp; omega) (by simp; omega) (by simp; omega) (fun v' w' h4 h5 => h v' w' (by unfold OwnV; rw [List.length_append]; exact h4) (Below.trans (hb0.mono hbase) h5))

/-- What is left of a row behind i blocks. -/
def RestV (b off n cap i : Nat) (v : Value) : Prop := ∃ q c, v = .slice q (n - 32 * i) c ∧ (32 * i < n → q = some ⟨b, off + 64 * i, none⟩ ∧ c = cap - 32 * i)
set_option maxRecDepth 100000 in
set_option maxHeartbeats 2000000 in
theorem blocks_any (b off n cap : Nat) (q : Option Addr) (w : World) (hq : 0 < n → q = some ⟨b, off, none⟩) (hnc : n ≤ cap) (hcm : cap ≤ maxLen) (hn : n ≤ 1000000000) : Calls Try.prog 34 #[.slice q n cap, .int .i64 32] w (BlksLeft b off n cap w) := by
  unfold maxLen at hcm
  have HO0 : Hid (OwnV w.heap.size w (.slice none 0 0) (blksV b off n cap 0)) := Lib.hid (World.ownsRow_nil _ _ _ _)
  have HR0 : Hid (RestV b off n cap 0 (.slice q n cap)) := Lib.hid ⟨q, cap, by rw [Nat.mul_zero, Nat.sub_zero], fun h => ⟨hq (by omega), by omega⟩⟩
  clear hq
  go_enter Try.func34, Try.ntmps34
  go_wp2_with fail
  go_loopw [0, 5] (fun r u wr => ∃ i : Nat, i ≤ cnt n ∧ Hid (RestV b off n cap i r) ∧ Hid (OwnV w.heap.size wr u (blksV b off n cap i)) ∧ Hid (Below w.heap.size w wr)) (fun r _ _ => match r with | .slice _ m _ => m | _ => 0)
  case atStart => exact ⟨0, by omega, HR0, HO0, Lib.hid (Below.refl _ _)⟩
  case round =>
    obtain ⟨i, hi, HR, HO, HB⟩ := hrel
    clear HO0 HR0
    obtain ⟨q1, c1, rfl, hq1⟩ := HR.out
    have hsz := HB.out.size
    unfold cnt at hi
    by_cases hlt : 32 * i < n
    · obtain ⟨rfl, rfl⟩ := hq1 hlt
      have t1 : decide (((n - 32 * i : Nat) : Int) > 0) = true := by rw [decide_eq_true_eq]; omega
      obtain ⟨m, hm⟩ : ∃ m, min 32 (n - 32 * i) = m := ⟨_, rfl⟩
      obtain ⟨r, hr⟩ : ∃ r, n - 32 * i = r := ⟨_, rfl⟩
      obtain ⟨c, hc⟩ : ∃ c, cap - 32 * i = c := ⟨_, rfl⟩
      have hsn := blksV_snoc b off n cap i
      unfold blkV at hsn
      rw [hm, hc] at hsn
      rw [hr] at t1 hm ⊢
      rw [hc]
      have HS := Lib.hid hsn
      have HNX : Hid (∀ q2 c2, (c ≠ m → q2 = some ⟨b, off + 64 * i + m * 2, none⟩ ∧ c2 = c - m) → RestV b off n cap (i + 1) (.slice q2 (r - m) c2)) := Lib.hid (fun q2 c2 h => ⟨q2, c2, by rw [show n - 32 * (i + 1) = r - m by omega], fun hlt2 => by
        obtain ⟨h1, h2⟩ := h (by omega)
        exact ⟨by rw [h1, show off + 64 * i + m * 2 = off + 64 * (i + 1) by omega], by omega⟩⟩)
      have hmr : m ≤ r := by omega
      have hrc : r ≤ c := by omega
      have hm0 : 0 < m := by omega
      have hmin : (if (r : Int) < 32 then (r : Int) else 32) = (m : Int) := by split <;> omega
      have hmin2 : (if 32 < (r : Int) then 32 else (r : Int)) = (m : Int) := by split <;> omega
      have hmin3 : min 32 (r : Int) = (m : Int) := by omega
      have hlen : (blksV b off n cap i).length ≤ 100000000000 := by rw [blksV_len]; omega
      have hin : i + 1 ≤ (n + 31) / 32 := by omega
      have HLT := Lib.hid hlt
      obtain ⟨pu, cu, rfl, hu1, hu2⟩ := HO.out.shape
      have HHM := Lib.hid hm
      have HMR : Hid (r - m < r) := Lib.hid (by omega)
      clear hm hc hlt hr hsn hi HR
      go_wp2_with (at_builtin; refine wpList_append_blk rfl _ _ rfl w.heap.size _ (blksV b off n cap i) wr (.slice (some ⟨b, off + 64 * i, none⟩) m c) rfl rfl rfl HO.out rfl hlen hsz ?_)
      intro v4 w4 hown4 hb4
      rw [← HS.out] at hown4
      have HO4 := Lib.hid hown4
      have HB4 := Lib.hid (HB.out.trans hb4)
      have i1 : (m : Int) ≤ (r : Int) := by omega
      clear hown4 hb4 HO hu1 hu2
      by_cases hcm2 : c = m
      · have HNX2 := Lib.hid (fun q2 c2 => HNX.out q2 c2 (fun h => absurd hcm2 h))
        go_wp2_with fail
        go_roundw
        case rel => exact ⟨i + 1, hin, HNX2.out _ _, HO4, HB4⟩
        case measure => exact HMR.out
      · have HNX2 := Lib.hid (HNX.out (some ⟨b, off + 64 * i + m * 2, none⟩) (c - m) (fun h => ⟨rfl, rfl⟩))
        go_wp2_with fail
        go_roundw
        case rel => exact ⟨i + 1, hin, HNX2, HO4, HB4⟩
        case measure => exact HMR.out
    · have e0 : n - 32 * i = 0 := by omega
      have ei : i = cnt n := by unfold cnt; omega
      have HO2 : Hid (OwnV w.heap.size wr u5 (blksV b off n cap (cnt n))) := by rw [← ei]; exact HO
      rw [e0]
      clear HO hq1 hlt HR e0
      go_wp2_with fail
      go_ret
      exact ⟨_, rfl, HO2.out, HB.out⟩
end Go.Proofs.Ytdgjbhejokmeoaa.PW
