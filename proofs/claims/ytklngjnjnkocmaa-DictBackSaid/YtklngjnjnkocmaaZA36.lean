/-
  slices.Chunk at entries, sixteen at a time: what its iterator yields. Condition: 262144 entries at most.
-/
import Derived.RangeFuncNested
import Derived.RangeFuncBound
import Derived.RangeFuncCalls
import Derived.RangeFuncLeaves
import Derived.Shelf.Abstract
import Derived.Shelf.RegionOpen
import Derived.OwnWalkIn
import Derived.TacticsInMore
import Derived.LoopNIn
import Derived.LoopIn
import Derived.Test.YtklngjnjnkocmaaZA26
import Derived.Test.YtklngjnjnkocmaaZA35
set_option linter.unusedVariables false
namespace Go.Proofs.Ytklngjnjnkocmaa.DT
open Go Go.RowKit Go.Shelf Go.Proofs.Ytklngjnjnkocmaa.MM Go.Proofs.Ytklngjnjnkocmaa.DM
open Go.Proofs.Ytklngjnjnkocmaa.RF (VowsK Grows)
attribute [local go_sem] Oper.semAt_some

/-- What is yielded: a part (its value, its entries). -/
abbrev Part := Value × List Ent
abbrev encP (x : Part) : Array Value := #[x.1]
def VowP (T : Nat → Prop) (l : List Ent) (x : Part) (W : World) : Prop := ROn entC T W x.1 x.2 ∧ ∃ k, x.2 = chunk l k
theorem ron_cap {α : Type} {C : Codec α} {S : Nat → Prop} {w : World} {p : Option Addr} {n cap cap' : Nat} {es : List α} (h : ROn C S w (.slice p n cap) es) (h1 : n ≤ cap') (h2 : cap' ≤ maxLen) (h3 : p ≠ none) : ROn C S w (.slice p n cap') es := by
  obtain ⟨p', c', raw, hv, a1, a2, a3, hm, hc⟩ := h
  simp only [Value.slice.injEq] at hv
  obtain ⟨rfl, rfl, rfl⟩ := hv
  exact ⟨_, cap', raw, rfl, h1, h2, fun h => absurd h h3, hm, hc⟩
theorem chunk_eq (l : List Ent) (k m : Nat) (h : m = min 16 (l.length - 16 * k)) : (l.drop (16 * k)).take m = chunk l k := by
  unfold chunk
  subst h
  by_cases h2 : 16 ≤ l.length - 16 * k
  · rw [Nat.min_eq_left h2]
  · rw [Nat.min_eq_right (by omega), List.take_of_length_le (by rw [List.length_drop]; exact Nat.le_refl _), List.take_of_length_le (by rw [List.length_drop]; omega)]

set_option maxRecDepth 100000 in
set_option maxHeartbeats 2000000 in
theorem chunk_in (n : Nat) (hn : 1 ≤ n) (y bs bn : Nat) (T : Nat → Prop) (v0 : Value) (l : List Ent) (J Jx : List Part → World → Prop) (hJ : Grows J)
    (hY : ∀ pre x A, J pre A → VowP T l x A → pre.length < chunksN l → YieldAt Fence.wide (n - 1) Try.prog y (encP x) A fun e B =>
      (e = .returned (.bool true) ∧ J (pre ++ [x]) B ∧ Kep T A B) ∨ (e = .returned (.bool false) ∧ Jx (pre ++ [x]) B))
    (W : World) (hbs : W.cell? ⟨bs, 0, none⟩ = some v0) (hbn : W.cell? ⟨bn, 0, none⟩ = some (.int .i64 16)) (hbs1 : T bs) (hbn1 : T bn) (hl : ROn entC T W v0 l) (h0 : J [] W) (hlen : l.length ≤ 262144) :
    CallsIn Fence.wide n Try.prog 48 #[.func (.yield y) #[] #[], .pointer (some ⟨bs, 0, none⟩), .pointer (some ⟨bn, 0, none⟩)] W fun e B => (∃ v, e = .returned v) ∧
      ((∃ xs, xs.map (·.2) = chunksOf l ∧ J xs B) ∨ (∃ pre, True ∧ Jx pre B)) := by
  obtain ⟨p0, cap0, rfl, hlc, hcm, _⟩ := hl.shape
  unfold maxLen at hcm
  have hmx : Try.prog.follows .mixedOrders = true := by kernel_rfl
  have HB0 := Lib.hid (And.intro hl (And.intro hbs hbn))
  have HT0 : Hid (([] : List Part).map (·.2) = (List.range 0).map (chunk l)) := Lib.hid rfl
  have HY := Lib.hid hY
  clear hl hY hbs hbn
  refine callsIn_of_wp Try.func48 rfl trivial ?_ rfl
  simp only [Try.ntmps48, List.size_toArray, List.length_cons, List.length_nil, Nat.reduceAdd, Nat.reduceSub, Array.replicate_succ, Array.replicate_zero, List.push_toArray, List.append_toArray, List.nil_append, List.cons_append]
  gi_wp2
  gi_loopw [4] (fun iv wr => ∃ (k : Nat) (xs : List Part), iv = .int .i64 ((16 * k : Nat) : Int) ∧ k ≤ chunksN l ∧ xs.length = k ∧ Hid (xs.map (·.2) = (List.range k).map (chunk l)) ∧ Hid (ROn entC T wr (.slice p0 l.length cap0) l ∧ wr.cell? ⟨bs, 0, none⟩ = some (.slice p0 l.length cap0) ∧ wr.cell? ⟨bn, 0, none⟩ = some (.int .i64 16)) ∧ J xs wr) (fun iv _ => 16 * chunksN l + 16 - (intOf iv).toNat)
  case atStart => exact ⟨0, [], rfl, Nat.zero_le _, rfl, HT0, HB0, h0⟩
  case round =>
    obtain ⟨k, xs, rfl, hk, hxl, HT, HR, hJs⟩ := hrel
    clear HT0 HB0 h0
    obtain ⟨hr, hcs, hcn⟩ := HR.out
    have hNd : chunksN l = (l.length + 15) / 16 := rfl
    obtain ⟨i, hi⟩ : ∃ i, 16 * k = i := ⟨_, rfl⟩
    rw [hi]
    by_cases hlt : i < l.length
    · have q1 : decide ((i : Int) < (l.length : Int)) = true := by rw [decide_eq_true_eq]; omega
      have q2 : decide (i < l.length) = true := by rw [decide_eq_true_eq]; omega
      have q3 : (i : Int) ≤ (l.length : Int) := by omega
      obtain ⟨m, hm⟩ : ∃ m, min 16 (l.length - i) = m := ⟨_, rfl⟩
      have hmin1 : min (16 : Int) ((l.length - i : Nat) : Int) = (m : Int) := by omega
      have hmin2 : (if l.length - i < 16 then ((l.length - i : Nat) : Int) else 16) = (m : Int) := by split <;> omega
      obtain ⟨e, he⟩ : ∃ e, i + m = e := ⟨_, rfl⟩
      have hie : (i : Int) + (m : Int) = (e : Int) := by omega
      have hiw : IntKind.i64.wrap ((i : Int) + (m : Int)) = (e : Int) := by rw [IntKind.wrap_i64]; omega
      have q4 : (e : Int) ≤ (cap0 : Int) := by omega
      have q5 : (i : Int) ≤ (e : Int) := by omega
      obtain ⟨b, off, rfl, hbl, hbn₀, _⟩ := ent_at hr hlt
      have hrow := (ROn.drop hr i (by omega)).take m (by omega)
      rw [if_neg (by omega), Option.map_some, add_at, ent_size] at hrow
      have hrow2 := ron_cap (cap' := m) hrow (Nat.le_refl _) (by unfold maxLen; omega) (by simp)
      rw [show (l.drop i).take m = chunk l k by rw [← hi]; exact chunk_eq l k m (by omega)] at hrow2
      rw [show m = e - i by omega] at hrow2
      obtain ⟨wd, hwd⟩ : ∃ wd, wr.drew = wd := ⟨_, rfl⟩
      have hbd : Below wr.heap.size wr wd := by rw [← hwd]; exact (Below.refl _ _).drew
      have hgd : wr.grownBy wd none := ⟨hbd.os, hbd.tape, hbd.output, hbd.size, fun k hk _ => hbd.block k hk⟩
      have hJd := hJ xs wr wd hJs hgd
      obtain ⟨fn, tmps, assign, body, hy, hRd⟩ := HY.out xs (.slice (some ⟨b, off + i * 4, none⟩) (e - i) (e - i), chunk l k) wd hJd ⟨ROn.keep hrow2 (kep_below T hbd) (fun _ _ h => h), k, rfl⟩ (by omega)
      dsimp only [encP] at hy
      rw [← hwd] at hy
      have HRd := Lib.hid hRd
      have HWD := Lib.hid hwd
      have HQ : Hid (ROn entC T wd (.slice (some ⟨b, off, none⟩) l.length cap0) l ∧ wd.cell? ⟨bs, 0, none⟩ = some (.slice (some ⟨b, off, none⟩) l.length cap0) ∧ wd.cell? ⟨bn, 0, none⟩ = some (.int .i64 16)) := Lib.hid ⟨ROn.keep hr (kep_below T hbd) (fun _ _ h => h), (hbd.cell (p := ⟨bs, 0, none⟩) (World.block_lt_of_cell? _ _ hcs)).trans hcs, (hbd.cell (p := ⟨bn, 0, none⟩) (World.block_lt_of_cell? _ _ hcn)).trans hcn⟩
      have HXN : Hid ((xs ++ [((.slice (some ⟨b, off + i * 4, none⟩) (e - i) (e - i) : Value), chunk l k)]).map (·.2) = (List.range (k + 1)).map (chunk l)) := Lib.hid (by rw [List.map_append, HT.out, List.range_succ, List.map_append]; rfl)
      have HI : Hid (16 * k = i) := Lib.hid hi
      have hkl : k + 1 ≤ chunksN l := by omega
      have HLK : Hid (k < chunksN l) := Lib.hid (by omega)
      clear hrow hrow2 hbd hgd hwd hRd hr HR HT hJs hi HY
      gi_wp2
      gi_region_with_o (fail)
      all_goals gi_wp2
      all_goals rw [HWD.out]
      all_goals refine HRd.out.mono ?_
      all_goals rintro e w3 (⟨rfl, hJ3, hb3⟩ | ⟨rfl, hJ3⟩)
      all_goals first
        | (have hr3 : ROn entC T w3 (.slice (some ⟨b, off, none⟩) l.length cap0) l := ROn.keep HQ.out.1 hb3 (fun _ _ h => h)
           have cs3 : w3.cell? ⟨bs, 0, none⟩ = some (.slice (some ⟨b, off, none⟩) l.length cap0) := (hb3.cell (World.block_lt_of_cell? _ _ HQ.out.2.1) hbs1 0).trans HQ.out.2.1
           have cn3 : w3.cell? ⟨bn, 0, none⟩ = some (.int .i64 16) := (hb3.cell (World.block_lt_of_cell? _ _ HQ.out.2.2) hbn1 0).trans HQ.out.2.2
           have HR3 := Lib.hid (And.intro hr3 (And.intro cs3 cn3))
           clear hr3 hb3 HRd hy HQ HWD HLK
           gi_wp2
           have hi := HI.out
           go_roundw
           case rel => exact ⟨k + 1, _, by rw [show ((16 * (k + 1) : Nat) : Int) = (i : Int) + 16 by omega], hkl, by rw [List.length_append, hxl]; rfl, HXN, HR3, hJ3⟩
           case measure => simp [intOf]; omega)
        | (clear HRd hy HQ HWD
           gi_wp2
           refine bodyPost_ret (results_none rfl _ _ _) rfl ?_
           exact ⟨⟨_, rfl⟩, .inr ⟨_, trivial, hJ3⟩⟩)
    · have q1 : decide ((i : Int) < (l.length : Int)) = false := by rw [decide_eq_false_iff_not]; omega
      have q2 : decide (i < l.length) = false := by rw [decide_eq_false_iff_not]; omega
      have hkN : k = chunksN l := by omega
      have ht := HT.out
      rw [hkN] at ht
      have HT9 : Hid (xs.map (·.2) = chunksOf l) := Lib.hid ht
      clear ht HT hi hkN hlt
      gi_wp2
      go_end0
      exact ⟨⟨_, rfl⟩, .inl ⟨xs, HT9.out, hJs⟩⟩
/-- Chunk(l, 16): l and 16 are boxed; the function value captures the boxes. -/
theorem chk_in (n : Nat) (p : Option Addr) (m c : Nat) (W : World) :
    CallsIn Fence.wide n Try.prog 28 #[.slice p m c, .int .i64 16] W fun e B => e = .returned (.func (.func 48) #[] #[.pointer (some ⟨W.heap.size, 0, none⟩), .pointer (some ⟨W.heap.size + 1, 0, none⟩)]) ∧ B = (W.alloc (.cells #[.slice p m c] 22)).alloc (.cells #[.int .i64 16] 3) := by
  refine callsIn_of_wp Try.func28 rfl trivial ?_ rfl
  simp only [Try.ntmps28, List.size_toArray, List.length_cons, List.length_nil, Nat.reduceAdd, Nat.reduceSub, Array.replicate_succ, Array.replicate_zero, List.push_toArray, List.append_toArray, List.nil_append, List.cons_append]
  gi_wp2
  go_ret
  exact ⟨rfl, rfl⟩
/-- .. it vows. -/
theorem chunk_vow (n : Nat) (hn : 1 ≤ n) (bs bn : Nat) (T : Nat → Prop) (v : Value) (l : List Ent) (w : World) (hlen : l.length ≤ 262144) (hbs : T bs) (hbn : T bn) (hT : ∀ k, T k → k < w.heap.size) (hcs : w.cell? ⟨bs, 0, none⟩ = some v) (hcn : w.cell? ⟨bn, 0, none⟩ = some (.int .i64 16)) (hl : ROn entC T w v l) :
    VowsK Fence.wide n Try.prog 48 #[.pointer (some ⟨bs, 0, none⟩), .pointer (some ⟨bn, 0, none⟩)] encP T (VowP T l) (fun xs => xs.map (·.2) = chunksOf l) (fun _ => True) (chunksN l) w :=
  fun y J Jx W hW hJ _ hY h0 => chunk_in n hn y bs bn T v l J Jx hJ hY W ((hW.cell (p := ⟨bs, 0, none⟩) (hT _ hbs)).trans hcs) ((hW.cell (p := ⟨bn, 0, none⟩) (hT _ hbn)).trans hcn) hbs hbn (ROn.keep hl (kep_below T hW) (fun _ _ h => h)) h0 hlen
end Go.Proofs.Ytklngjnjnkocmaa.DT
