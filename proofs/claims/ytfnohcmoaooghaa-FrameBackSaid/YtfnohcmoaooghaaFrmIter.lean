/-
  frames: the iterator that Split ranges over: it yields what Get tells of what stands first, and so on, till nothing is left. No condition.
-/
import Derived.RangeFuncNested
import Derived.RangeFuncBound
import Derived.RangeFuncCalls
import Derived.RangeFuncLeaves
import Derived.Shelf.Abstract
import Derived.Shelf.RegionOpen
import Derived.OwnWalkIn
import Derived.TacticsInMore
import Derived.LoopNIn
import Derived.LoopIn
import Derived.Test.YtfnohcmoaooghaaRfn
import Derived.Test.YtfnohcmoaooghaaFrmGet
set_option linter.unusedVariables false
namespace Go.Proofs.Ytfnohcmoaooghaa.FG
open Go.RowKit Go.Shelf Go.Proofs.Ytfnohcmoaooghaa.MM Go.Proofs.Ytfnohcmoaooghaa.VM Go.Proofs.Ytfnohcmoaooghaa.CM Go.Proofs.Ytfnohcmoaooghaa.FM Go.Proofs.Ytfnohcmoaooghaa.VP Go.Proofs.Ytfnohcmoaooghaa.CR Go.Proofs.Ytfnohcmoaooghaa.FP Go.Proofs.Ytfnohcmoaooghaa.VG
open Go.Proofs.Ytfnohcmoaooghaa.RF (Vows Grows)
attribute [local go_sem] Oper.semAt_some

/-- What is yielded: a payload (its value, its bytes), an error's number. -/
abbrev Item := Value × List UInt8 × Int
abbrev encI (x : Item) : Array Value := #[x.1, .int .i64 x.2.2]
def Vow (x : Item) (W : World) : Prop := OwnB 0 W x.1 x.2.1 ∧ x.2.1.length ≤ 16777216
/-- These have come of bytes; what is left. -/
inductive Tr : List UInt8 → List Item → List UInt8 → Prop
  | start (l : List UInt8) : Tr l [] l
  | next {l : List UInt8} {xs : List Item} {r : List UInt8} (v : Value) : Tr l xs r → r ≠ [] → Tr l (xs ++ [(v, (getR r).1, (getR r).2.2)]) (restR r)

theorem getR_len (r : List UInt8) : (getR r).1.length ≤ 16777216 := by
  rcases getR_err r with ⟨p, k, h⟩ | h | h
  · rw [h]; exact (getR_back h).1
  · rw [h]; simp
  · rw [h]; simp
theorem restR_len {r : List UInt8} (h : r ≠ []) : (restR r).length < r.length := by
  have hl : r.length ≠ 0 := fun e => h (List.eq_nil_of_length_eq_zero e)
  rcases getR_err r with ⟨p, k, hg⟩ | hg | hg
  · rw [restR_ok hg, List.length_drop]
    have hb := getR_back hg
    have := (frameL_bounds p).1
    omega
  · rw [restR_err hg (by omega)]; simp; omega
  · rw [restR_err hg (by omega)]; simp; omega
theorem Tr.len {l : List UInt8} {xs : List Item} {r : List UInt8} (h : Tr l xs r) : xs.length + r.length ≤ l.length := by
  induction h with
  | start => simp
  | next v h hne ih =>
    have := restR_len hne
    rw [List.length_append, List.length_singleton]
    omega
def lenOf : Value → Nat | .slice _ n _ => n | _ => 0

set_option maxRecDepth 100000 in
set_option maxHeartbeats 2000000 in
theorem iter_in (n : Nat) (hn : 1 ≤ n) (l Bn n₀ : Nat) (v0 : Value) (b : List UInt8) (J Jx : List Item → World → Prop) (hJ : Grows J)
    (hY : ∀ pre x A, J pre A → Vow x A → pre.length < b.length → YieldAt Fence.wide (n - 1) Try.prog l (encI x) A fun e B =>
      (e = .returned (.bool true) ∧ J (pre ++ [x]) B ∧ Below n₀ A B) ∨ (e = .returned (.bool false) ∧ Jx (pre ++ [x]) B))
    (W : World) (hBn : W.cell? ⟨Bn, 0, none⟩ = some v0) (hb : BIn n₀ W v0 b) (hn₀ : n₀ ≤ W.heap.size) (h0 : J [] W) :
    CallsIn Fence.wide n Try.prog 38 #[.func (.yield l) #[] #[], .pointer (some ⟨Bn, 0, none⟩)] W fun e B => (∃ v, e = .returned v) ∧
      ((∃ xs, Tr b xs [] ∧ J xs B) ∨ (∃ pre, (∃ r, Tr b pre r) ∧ Jx pre B)) := by
  obtain ⟨p0, cap0, rfl, _, _⟩ := hb.shape
  have HB0 := Lib.hid hb
  have HT0 : Hid (Tr b [] b) := Lib.hid (.start b)
  have HY := Lib.hid hY
  clear hb hY
  refine callsIn_of_wp Try.func38 rfl trivial ?_ rfl
  simp only [Try.ntmps38, List.size_toArray, List.length_cons, List.length_nil, Nat.reduceAdd, Nat.reduceSub, Array.replicate_succ, Array.replicate_zero, List.push_toArray, List.append_toArray, List.nil_append, List.cons_append]
  gi_wp2
  gi_loopw [3] (fun p wr => ∃ (xs : List Item) (r : List UInt8), Hid (Tr b xs r) ∧ Hid (BIn n₀ wr p r) ∧ J xs wr ∧ n₀ ≤ wr.heap.size) (fun p _ => lenOf p)
  case atStart => exact ⟨[], b, HT0, HB0, h0, hn₀⟩
  case round =>
    obtain ⟨xs, r, HT, HR, hJs, hsz⟩ := hrel
    clear HT0 HB0 h0
    obtain ⟨q, capq, rfl, hqc, hqm⟩ := HR.out.shape
    by_cases hr : r = []
    · subst hr
      gi_wp2
      go_end0
      exact ⟨⟨_, rfl⟩, .inl ⟨xs, HT.out, hJs⟩⟩
    · have hrl : 0 < r.length := List.length_pos_iff.2 hr
      have hlen := HT.out.len
      have hG := get_own n₀ _ r wr HR.out hsz
      have hnext := fun v => Tr.next v HT.out hr
      have hrest := restR_len hr
      have hpl := getR_len r
      generalize (getR r).1 = p at *
      generalize (getR r).2.2 = er at *
      generalize restR r = R at *
      have HG := Lib.hid hG
      have HN := Lib.hid hnext
      have t1 : decide ((r.length : Int) > 0) = true := by simp; omega
      clear hG hnext HR HT hr
      gi_wp2
      refine ⟨trivial, (callsIn_wide.2 HG.out).mono ?_⟩
      rintro e w2 ⟨vp, vr, rfl, hp, hq, hb2⟩
      have hg2 : wr.grownBy w2 none := ⟨hb2.os, hb2.tape, hb2.output, hb2.size, fun k hk _ => hb2.block k hk⟩
      have hJ2 := hJ xs wr w2 hJs hg2
      have hsz2 : n₀ ≤ w2.heap.size := by have := hb2.size; omega
      obtain ⟨fn, tmps, assign, body, hy, hR⟩ := HY.out xs (vp, p, er) w2 hJ2 ⟨hp, hpl⟩ (by omega)
      dsimp only [encI] at hy
      have HQ := Lib.hid hq
      have hT3 := HN.out vp
      have HT3 := Lib.hid hT3
      clear HG hp hq hb2 hg2 hJs HN hT3
      gi_wp2
      refine hR.mono ?_
      rintro e w3 (⟨rfl, hJ3, hb3⟩ | ⟨rfl, hJ3⟩)
      · have HQ3 := Lib.hid (HQ.out.below hb3)
        have hsz3 : n₀ ≤ w3.heap.size := by have := hb3.size; omega
        obtain ⟨q3, cap3, rfl, _, _⟩ := HQ3.out.shape
        clear hR hy HQ
        gi_wp2
        go_roundw
        case rel => exact ⟨_, R, HT3, HQ3, hJ3, hsz3⟩
        case measure => exact hrest
      · have HT4 := Lib.hid HT3.out
        clear hR hy HQ HT3
        gi_wp2
        refine bodyPost_ret (results_none rfl _ _ _) rfl ?_
        exact ⟨⟨_, rfl⟩, .inr ⟨_, ⟨R, HT4.out⟩, hJ3⟩⟩
/-- frames(b): b is boxed; the function value captures the box. -/
theorem frames_in (n : Nat) (p : Option Addr) (m c : Nat) (W : World) :
    CallsIn Fence.wide n Try.prog 33 #[.slice p m c] W fun e B => e = .returned (.func (.func 38) #[] #[.pointer (some ⟨W.heap.size, 0, none⟩)]) ∧ B = W.alloc (.cells #[.slice p m c] 22) := by
  refine callsIn_of_wp Try.func33 rfl trivial ?_ rfl
  simp only [Try.ntmps33, List.size_toArray, List.length_cons, List.length_nil, Nat.reduceAdd, Nat.reduceSub, Array.replicate_succ, Array.replicate_zero, List.push_toArray, List.append_toArray, List.nil_append, List.cons_append]
  gi_wp2
  go_ret
  exact ⟨rfl, rfl⟩
/-- .. it vows. -/
theorem frames_vow (n : Nat) (hn : 1 ≤ n) (Bn n₀ : Nat) (v : Value) (b : List UInt8) (w : World) (hBn : Bn < w.heap.size) (hn₀ : n₀ ≤ w.heap.size) (hc : w.cell? ⟨Bn, 0, none⟩ = some v) (hb : BIn n₀ w v b) :
    Vows Fence.wide n Try.prog 38 #[.pointer (some ⟨Bn, 0, none⟩)] encI n₀ Vow (fun xs => Tr b xs []) (fun pre => ∃ r, Tr b pre r) b.length w :=
  fun l J Jx W hW hJ _ hY h0 => iter_in n hn l Bn n₀ v b J Jx hJ hY W ((hW.cell (p := ⟨Bn, 0, none⟩) hBn).trans hc) (hb.below (hW.mono hn₀)) (by have := hW.size; omega) h0
end Go.Proofs.Ytfnohcmoaooghaa.FG
