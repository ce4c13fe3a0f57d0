/-
  The code's reader: heads. Condition: fewer than 2^62 bytes, fewer than 10^9 heads.
-/
import Derived.Test.YtdgjbhejokmeoaaPstRd
set_option linter.unusedVariables false
namespace Go.Proofs.Ytdgjbhejokmeoaa.PW
open Go.RowKit Go.Proofs.Ytdgjbhejokmeoaa.MM Go.Proofs.Ytdgjbhejokmeoaa.PM Go.Proofs.Ytdgjbhejokmeoaa.VM

theorem infoHead : (Try.prog.info? 72).map (fun i => (i.zero, i.size, i.bytes)) = some (some (.agg #[.int .i64 0, .int .i64 0]), 2, 16) := by kernel_rfl
/-- Cells of whole numbers that are filled from their head on. -/
def HalfZ (e : TypeId) (w : World) (g N : Nat) (zs : List Int) : Prop := g < w.heap.size ∧ ∃ cur, w.heap[g]? = some (.cells cur e) ∧ cur.size = N ∧ zs.length ≤ N ∧ cur.toList.take zs.length = zs.map (Value.int .i64)
theorem HalfZ.next {e : TypeId} {w : World} {g n : Nat} {zs : List Int} (h : HalfZ e w g n zs) (hk : zs.length < n) (z : Int) : HalfZ e (w.setCell ⟨g, zs.length, none⟩ (.int .i64 z)) g n (zs ++ [z]) := by
  obtain ⟨h1, cur, h2, h3, h4, h5⟩ := h
  have := heap_setCell_same w g zs.length _ _ (.int .i64 z) h2
  refine ⟨by simpa using h1, _, this, by simp [h3], by simp; omega, ?_⟩
  rw [List.length_append, List.length_singleton, List.take_succ_eq_append_getElem (by simp; omega)]
  simp only [Array.toList_setIfInBounds, List.map_append, List.map_singleton]
  rw [List.take_set_of_le (by omega), h5]
  simp
theorem HalfZ.cell {e : TypeId} {w : World} {g n : Nat} {zs : List Int} (h : HalfZ e w g n zs) {k : Nat} (hk : k < n) : (∃ u, w.cell? ⟨g, k, none⟩ = some u) ∧ w.frozen? ⟨g, k, none⟩ = false := by
  obtain ⟨h1, cur, h2, h3, h4, h5⟩ := h
  exact ⟨by rw [cell_of_row w g k _ _ _ h2]; exact ⟨_, Array.getElem?_eq_getElem (by omega)⟩, frozen_of_row w g k _ _ h2⟩
theorem HalfZ.get {e : TypeId} {w : World} {g n : Nat} {zs : List Int} (h : HalfZ e w g n zs) {k : Nat} {z : Int} (hk : zs[k]? = some z) : w.cell? ⟨g, k, none⟩ = some (.int .i64 z) := by
  obtain ⟨h1, cur, h2, h3, h4, h5⟩ := h
  obtain ⟨hlt, rfl⟩ := List.getElem?_eq_some_iff.1 hk
  rw [cell_of_row w g k _ _ _ h2]
  have := congrArg (fun l => l[k]?) h5
  simp only [List.getElem?_take, hlt, if_true, List.getElem?_map, List.getElem?_eq_getElem hlt, Option.map_some] at this
  simpa using this
theorem HalfZ.keep {e : TypeId} {S : Nat → Prop} {w w' : World} {g n : Nat} {zs : List Int} (h : HalfZ e w g n zs) (hk : Kep S w w') (hS : S g) : HalfZ e w' g n zs := by
  obtain ⟨h1, cur, h2, h3⟩ := h
  exact ⟨Nat.lt_of_lt_of_le h1 hk.size, cur, by rw [hk.block g h1 hS]; exact h2, h3⟩
theorem halfZ_start {B : Nat} {w : World} {g n : Nat} {xs : List Value} (h : w.ownsRow B 72 2 (.slice (some ⟨g, 0, none⟩) n n) n xs) : HalfZ 72 w g (n * 2) [] := by
  rcases h.2 with ⟨hv, _⟩ | ⟨g', cap, cur, hv, hb, hh, hn, hm, hs, ht⟩
  · cases hv
  · simp only [Value.slice.injEq, Option.some.injEq, Addr.mk.injEq] at hv
    obtain ⟨⟨rfl, _⟩, _, rfl⟩ := hv
    exact ⟨(Array.getElem?_eq_some_iff.1 hh).1, cur, hh, hs, by simp, by simp⟩
def flatH (hs : List (Nat × Nat)) : List Int := hs.flatMap fun h => [(h.1 : Int), (h.2 : Int)]
theorem flatH_len (hs : List (Nat × Nat)) : (flatH hs).length = hs.length * 2 := by
  induction hs with
  | nil => rfl
  | cons t ts ih =>
    have e : flatH (t :: ts) = [(t.1 : Int), (t.2 : Int)] ++ flatH ts := rfl
    rw [e, List.length_append, ih, List.length_cons]
    simp; omega
theorem flatH_snoc (hs : List (Nat × Nat)) (x y : Nat) : flatH (hs ++ [(x, y)]) = flatH hs ++ [(x : Int)] ++ [(y : Int)] := by simp [flatH]
theorem flatH_get : ∀ (hs : List (Nat × Nat)) (i : Nat) (x y : Nat), hs[i]? = some (x, y) → (flatH hs)[i * 2]? = some (x : Int) ∧ (flatH hs)[i * 2 + 1]? = some (y : Int)
  | [], i, x, y, h => by simp at h
  | t :: ts, 0, x, y, h => by
    simp only [List.getElem?_cons_zero, Option.some.injEq] at h
    subst h
    exact ⟨rfl, rfl⟩
  | t :: ts, i + 1, x, y, h => by
    have := flatH_get ts i x y (by simpa using h)
    have e : flatH (t :: ts) = (t.1 : Int) :: (t.2 : Int) :: flatH ts := rfl
    rw [e, show (i + 1) * 2 = i * 2 + 1 + 1 by omega]
    simpa using this
/-- What heads leaves: a row of heads, the reader behind them. -/
def HeadsLeft (B g : Nat) (b : List UInt8) (n : Nat) (os o : Bool) (l0 : List UInt8) (w : World) (e : Ending) (w' : World) : Prop :=
  ∃ hs l o1 H, e = .returned (.slice (some ⟨H, 0, none⟩) (cnt n) (cnt n)) ∧ w.heap.size ≤ H ∧ HalfZ 72 w' H (cnt n * 2) (flatH hs) ∧ HSt b n o l0 (cnt n) hs l o1 ∧ (os = true → o1 = true) ∧ Rd B w' g l o1 ∧ Kep (fun b => b ≠ g) w w'

set_option maxRecDepth 100000 in
set_option maxHeartbeats 2000000 in
theorem heads_any (B g : Nat) (b l : List UInt8) (n : Nat) (oo o : Bool) (w : World) (h : Rd B w g l o) (hB : B ≤ g) (hb : b.length < 4611686018427387904) (hn : n ≤ 1000000) (hc : HSt b n oo l 0 [] l o) :
    Calls Try.prog 40 #[.pointer (some ⟨g, 0, none⟩), .int .i64 (cnt n)] w (HeadsLeft B g b n o oo l w) := by
  obtain ⟨i0, hi, hz0, hz1, hz2⟩ := info_parts infoHead
  have hcn : cnt n ≤ 1000000 := by unfold cnt; omega
  have HST := Lib.hid (fun i hs l1 o1 (h : HSt b n oo l i hs l1 o1) (hi : i < cnt n) => hst_step hb h hi)
  have hglt := h.lt
  have HR := Lib.hid h
  have HC0 : Hid (HSt b n oo l 0 [] l o) := Lib.hid hc
  obtain ⟨c, hcc⟩ : ∃ c, cnt n = c := ⟨_, rfl⟩
  unfold HeadsLeft
  rw [hcc] at hcn ⊢
  simp only [hcc] at HST
  clear h hc hb hn hcc
  go_enter Try.func40, Try.ntmps40
  go_wp2_with (at_make; refine wpList_make_full w rfl _ _ 67 rfl w.heap.size 72 i0 (.agg #[.int .i64 0, .int .i64 0]) 2 Try.underlying67 hi hz0 hz1 .i64 .i64 _ _ c rfl rfl rfl rfl (by rw [hz2]; omega) (by unfold maxLen; omega) (Nat.le_refl _) ?_)
  intro w2 hown2 hg2
  have b2 := (Below.refl w.heap.size w).grown hg2 (Nat.le_refl _) (fun k h => by cases h)
  have HH0 : Hid (HalfZ 72 w2 w.heap.size (c * 2) (flatH [])) := Lib.hid (halfZ_start hown2)
  have HR2 := Lib.hid (HR.out.keep (kep_below (fun _ => True) b2) trivial (fun _ _ => trivial) (by omega))
  have HK0 := Lib.hid (kep_below (fun b => b ≠ g) b2)
  have HG := Lib.hid (show w.heap.size ≠ g by omega)
  clear hown2 hg2 b2 hi hz0 hz1 hz2 HR
  go_wp2_with fail
  go_loopw [11] (fun iv wr => ∃ (i : Nat) (hs : List (Nat × Nat)) (l1 : List UInt8) (o1 : Bool), i ≤ c ∧ iv = .int .i64 i ∧ Hid (HSt b n oo l i hs l1 o1) ∧ Hid (o = true → o1 = true) ∧ Hid (HalfZ 72 wr w.heap.size (c * 2) (flatH hs)) ∧ Hid (Rd B wr g l1 o1) ∧ Hid (Kep (fun b => b ≠ g) w wr)) (fun iv _ => c - (intOf iv).toNat)
  case atStart => exact ⟨0, [], l, o, by omega, rfl, HC0, Lib.hid (fun e => e), HH0, HR2, HK0⟩
  case round =>
    obtain ⟨i, hs, l1, o1, hi, rfl, HC, HOD, HH, HRd, HK⟩ := hrel
    clear HC0 HH0 HR2 HK0
    by_cases hlt : i < c
    · have t1 : decide ((i : Int) < (c : Int)) = true := by simp; omega
      have hst := HST.out i hs l1 o1 HC.out hlt
      have hnum := number_any B g l1 o1 0 9223372036854775807 wr HRd.out hB (by omega) (by omega)
      have hil := HC.out.1
      have HOD2 : Hid (o = true → (numSt 0 9223372036854775807 (numSt 0 9223372036854775807 l1 o1).2.1 (numSt 0 9223372036854775807 l1 o1).2.2).2.2 = true) := Lib.hid (fun e => numSt_odd (numSt_odd (HOD.out e)))
      obtain ⟨R, hR⟩ : ∃ R, numSt 0 9223372036854775807 l1 o1 = R := ⟨_, rfl⟩
      rw [hR] at hnum hst HOD2
      have HNUM := Lib.hid hnum
      have HSTi := Lib.hid hst
      have hfl : (flatH hs).length = i * 2 := by rw [flatH_len, hil]
      have HFL := Lib.hid hfl
      clear hnum hst hR hil hfl
      go_wp2_with fail
      refine HNUM.out.mono ?_
      rintro e w3 ⟨rfl, h3, k3⟩
      obtain ⟨x, l2, o2⟩ := R
      dsimp only at h3 HSTi HOD2 ⊢
      have hh3 := HH.out.keep k3 HG.out
      obtain ⟨⟨u0, f0⟩, f1⟩ := hh3.cell (k := i * 2) (by omega)
      have hh4 := hh3.next (by rw [HFL.out]; omega) (x : Int)
      rw [HFL.out] at hh4
      have hb4 : Kep (fun b => b ≠ w.heap.size) w3 (w3.setCell ⟨w.heap.size, i * 2, none⟩ (.int .i64 (x : Int))) := kep_set (by simp) _
      have hr4 : Rd B (w3.setCell ⟨w.heap.size, i * 2, none⟩ (.int .i64 (x : Int))) g l2 o2 := h3.keep hb4 (Ne.symm HG.out) (fun k hk => by omega) (by have := h3.lt; omega)
      have hnum := number_any B g l2 o2 0 9223372036854775807 _ hr4 hB (by omega) (by omega)
      obtain ⟨R2, hR2⟩ : ∃ R, numSt 0 9223372036854775807 l2 o2 = R := ⟨_, rfl⟩
      rw [hR2] at hnum HSTi HOD2
      have HNUM2 := Lib.hid hnum
      have HH4 := Lib.hid hh4
      have hwz : w.heap.size ≤ w3.heap.size := Nat.le_trans HK.out.size k3.size
      have HK4 := Lib.hid ((HK.out.trans k3).andThen hb4 (fun k hk _ => by omega))
      clear h3 k3 hh3 hh4 hb4 hr4 hnum hR2 HNUM HH HRd HK
      go_wp2_with fail
      refine HNUM2.out.mono ?_
      rintro e w5 ⟨rfl, h5, k5⟩
      obtain ⟨y, l3, o3⟩ := R2
      dsimp only at h5 HSTi HOD2 ⊢
      have hh5 := HH4.out.keep k5 HG.out
      have hl5 : (flatH hs ++ [(x : Int)]).length = i * 2 + 1 := by rw [List.length_append, HFL.out]; rfl
      have g0 : ∃ u, w5.cell? ⟨w.heap.size, i * 2 + 1, none⟩ = some u := (hh5.cell (k := i * 2 + 1) (by omega)).1
      obtain ⟨u1, g0⟩ := g0
      have g1 := (hh5.cell (k := i * 2 + 1) (by omega)).2
      have hh6 := hh5.next (by rw [hl5]; omega) (y : Int)
      rw [hl5, ← flatH_snoc] at hh6
      have hb6 : Kep (fun b => b ≠ w.heap.size) w5 (w5.setCell ⟨w.heap.size, i * 2 + 1, none⟩ (.int .i64 (y : Int))) := kep_set (by simp) _
      have HR6 : Hid (Rd B (w5.setCell ⟨w.heap.size, i * 2 + 1, none⟩ (.int .i64 (y : Int))) g l3 o3) := Lib.hid (h5.keep hb6 (Ne.symm HG.out) (fun k hk => by omega) (by have := h5.lt; omega))
      have HH6 := Lib.hid hh6
      have HK6 := Lib.hid ((HK4.out.trans k5).andThen hb6 (fun k hk _ => by omega))
      clear h5 k5 hh5 hl5 hh6 hb6 HNUM2 HH4 HK4
      go_wp2_with fail
      go_roundw
      case rel => exact ⟨i + 1, _, _, _, by omega, by go_num, HSTi, HOD2, HH6, HR6, HK6⟩
      case measure => simp [intOf]; omega
    · obtain rfl : i = c := by omega
      have t1 : decide ((i : Int) < (i : Int)) = false := by simp
      go_wp2_with fail
      go_ret
      exact ⟨hs, l1, o1, w.heap.size, rfl, Nat.le_refl _, HH.out, HC.out, HOD.out, HRd.out, HK.out⟩
end Go.Proofs.Ytdgjbhejokmeoaa.PW
