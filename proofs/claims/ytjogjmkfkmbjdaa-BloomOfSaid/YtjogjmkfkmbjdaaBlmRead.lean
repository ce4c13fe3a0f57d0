/-
  The code's Of, Read, Bytes, and its calls on a filter that nobody made. Condition: at most a thousand texts, each of at most a million bytes.
-/
import Derived.Test.YtjogjmkfkmbjdaaBlmAdd
import Derived.Test.YtjogjmkfkmbjdaaBlmNew
import Derived.Test.YtjogjmkfkmbjdaaBlmCount
set_option linter.unusedVariables false
namespace Go.Proofs.Ytjogjmkfkmbjdaa.BL
open Go.RowKit Go.Proofs.Ytjogjmkfkmbjdaa.MM Go.Proofs.Ytjogjmkfkmbjdaa.BM

/-! ### bytes.Clone -/
theorem own_empty0 (w : World) (B : Nat) (hB : B ≤ w.heap.size) : OwnB B (w.alloc (.cells #[] 5)) (.slice (some ⟨w.heap.size, 0, none⟩) 0 0) [] := own_lit w [] 5 B hB (by unfold maxLen; simp)
set_option maxRecDepth 100000 in
theorem clone_any (v : Value) (l : List UInt8) (w : World) (h : BRow w v l) (hl : l.length ≤ 1000000000000) : Calls Try.prog 32 #[v] w (PutLeft w.heap.size l w) := by
  obtain ⟨p, cap, rfl, hlc, _⟩ := h.shape
  have hq := fun (w : World) (a : Option Addr) (n c : Nat) => Lib.run_eql_slice_nil (P := Try.prog) w 28 5 a n c 0 0 Try.underlying28
  cases p with
  | none =>
    have hl0 : l = [] := by
      obtain ⟨p', cap', hv, h1, h2, h3, h4⟩ := h
      simp only [Value.slice.injEq] at hv
      obtain ⟨rfl, hv2, hv3⟩ := hv
      have := h3 rfl
      exact List.eq_nil_of_length_eq_zero (by omega)
    subst hl0
    have HF := Lib.hid (show PutLeft w.heap.size [] w (.returned (.slice none 0 0)) w from ⟨_, rfl, World.ownsRow_nil _ _ _ _, Below.refl _ _⟩)
    clear h
    go_enter Try.func32, Try.ntmps32
    go_wp2_with fail
    go_ret
    exact HF.out
  | some a =>
    have HO := Lib.hid (own_empty0 w w.heap.size (Nat.le_refl _))
    have HR := Lib.hid (fun o => BRow.below h ((Below.refl w.heap.size w).alloc (Nat.le_refl _) o))
    have HB := Lib.hid (fun o => (Below.refl w.heap.size w).alloc (Nat.le_refl _) o)
    clear h
    go_enter Try.func32, Try.ntmps32
    go_wp2_with (at_builtin; go_loud (refine wpList_append_bytes rfl _ _ rfl w.heap.size _ [] rfl HO.out _ l rfl (HR.out _) (by simp; omega) (by simp) ?_))
    intro v1 w1 hown hb
    have HF := Lib.hid (show PutLeft w.heap.size l w (.returned v1) w1 from ⟨_, rfl, hown, (HB.out _).trans hb⟩)
    clear hown hb
    go_wp2_with fail
    go_ret
    exact HF.out

/-! ### Bytes -/
set_option maxRecDepth 100000 in
theorem cbytes_any (g b cap : Nat) (L : List UInt8) (w : World) (h : FAt w g b cap L) : Calls Try.prog 15 #[.pointer (some ⟨g, 0, none⟩)] w (PutLeft w.heap.size L w) := by
  have hc := h.cell
  have hhi := h.hi
  have HM := Lib.hid (made_any g b cap L w h)
  have HC := Lib.hid (clone_any _ L w h.brow (by omega))
  clear h
  go_enter Try.func15, Try.ntmps15
  go_wp2_with fail
  refine HM.out.mono ?_
  rintro e w1 ⟨rfl, rfl⟩
  go_wp2_with fail
  refine HC.out.mono ?_
  rintro e w1 ⟨v, rfl, ho, hb⟩
  have HE := Lib.hid (show PutLeft w.heap.size L w (.returned v) w1 from ⟨v, rfl, ho, hb⟩)
  clear ho hb
  go_wp2_with fail
  go_ret
  exact HE.out

/-! ### Read -/
theorem made_of {w w1 : World} {v : Value} {L : List UInt8} (ho : OwnB w.heap.size w1 v L) (hb : Below w.heap.size w w1) (hlo : 8 ≤ L.length) (hhi : L.length ≤ 131072) :
    NewLeft L w (.returned (.tuple #[.pointer (some ⟨w1.heap.size, 0, none⟩), .int .i64 0])) (w1.alloc (.cells #[v] 50)) := by
  obtain ⟨b, cap, rfl, hbb, hl1, hl2⟩ := OwnB.shape ho (by omega)
  have hsz := hb.size
  have hk : Below w1.heap.size w1 (w1.alloc (.cells #[.slice (some ⟨b, 0, none⟩) L.length cap] 50)) := (Below.refl _ _).alloc (Nat.le_refl _) _
  have ho2 := ho.keep hk
  have hbl : b < w1.heap.size := by
    have hc := OwnB.cell ho (List.getElem?_eq_getElem (show 0 < L.length by omega))
    by_cases hb : b < w1.heap.size
    · exact hb
    · simp [World.cell?, Array.getElem?_eq_none (Nat.le_of_not_lt hb)] at hc
  refine ⟨w1.heap.size, b, cap, rfl, ⟨?_, ?_, by omega, hlo, hhi⟩, hsz, hbb, hb.alloc hsz _⟩
  · rw [cell_of_row _ w1.heap.size 0 _ _ _ (heap_alloc_new _ _)]; rfl
  · refine ⟨ho2.1, ?_⟩
    rcases ho2.2 with ⟨h0, _⟩ | ⟨g, cap, cur, hv, hg, rest⟩
    · cases h0
    · have hv2 := hv
      simp only [Value.slice.injEq, Option.some.injEq, Addr.mk.injEq] at hv2
      exact .inr ⟨g, cap, cur, hv, by rw [hv2.1.1]; exact Nat.le_refl _, rest⟩
set_option maxRecDepth 100000 in
theorem cread_no (v : Value) (l : List UInt8) (w : World) (h : BRow w v l) (hl : l.length < 8) : Calls Try.prog 21 #[v] w fun e w' => e = .returned (.tuple #[.pointer none, .int .i64 90]) ∧ w = w' := by
  obtain ⟨p, cap, rfl, _, _⟩ := h.shape
  have t1 : decide ((l.length : Int) < 8) = true := by rw [decide_eq_true_eq]; omega
  go_enter Try.func21, Try.ntmps21
  go_wp2_with fail
  go_ret2
  exact ⟨rfl, rfl⟩
set_option maxRecDepth 100000 in
theorem cread_any (v : Value) (l : List UInt8) (w : World) (h : BRow w v l) (hlo : 8 ≤ l.length) (hhi : l.length ≤ 131072) : Calls Try.prog 21 #[v] w (NewLeft l w) := by
  have HC := Lib.hid (clone_any v l w h (by omega))
  obtain ⟨p, cap, rfl, _, _⟩ := h.shape
  have t1 : decide ((l.length : Int) < 8) = false := by rw [decide_eq_false_iff_not]; omega
  have t2 : decide ((l.length : Int) > 131072) = false := by rw [decide_eq_false_iff_not]; omega
  clear h
  go_enter Try.func21, Try.ntmps21
  go_wp2_with fail
  refine HC.out.mono ?_
  rintro e w1 ⟨v, rfl, ho, hb⟩
  have HE := Lib.hid (made_of ho hb hlo hhi)
  obtain ⟨b, cap, rfl, _⟩ := OwnB.shape ho (by omega)
  clear ho hb
  go_wp2_with fail
  go_ret2
  exact HE.out

/-! ### Of -/
/-- What Of leaves. -/
def OfLeft (L : List UInt8) (w : World) (e : Ending) (w' : World) : Prop := ∃ g b cap, e = .returned (.pointer (some ⟨g, 0, none⟩)) ∧ FAt w' g b cap L ∧ w.heap.size ≤ g ∧ w.heap.size ≤ b ∧ Below w.heap.size w w'
set_option maxRecDepth 100000 in
set_option maxHeartbeats 1000000 in
theorem cof_any (ts : Value) (ss : List (List UInt8)) (w : World) (ht : TRow w ts ss) (hss : ss.length ≤ 1000) (hs : ∀ s ∈ ss, s.length ≤ 1000000) : Calls Try.prog 19 #[ts] w (OfLeft (addA (newL ss.length) ss).1 w) := by
  have HN := Lib.hid (new_any ss.length w (by omega))
  have HT := Lib.hid ht
  have HA := Lib.hid (fun g b cap W (h : FAt W g b cap (newL ss.length)) (ht : ∀ w', Kep (fun i => i ≠ b) W w' → TRow w' ts ss) => add_any g b cap (newL ss.length) ts ss W h ht hss hs)
  obtain ⟨p, tcap, rfl, htc, htm⟩ := TIn.shape ht
  obtain ⟨⟨R, c⟩, hR⟩ : ∃ R, addA (newL ss.length) ss = R := ⟨_, rfl⟩
  rw [hR] at HA ⊢
  unfold AddLeft at HA
  dsimp only at HA ⊢
  obtain ⟨N, hN⟩ : ∃ N, newL ss.length = N := ⟨_, rfl⟩
  rw [hN] at HN HA
  clear hR hN ht
  have t1 : (min (ss.length : Int) 262144) = (ss.length : Int) := by omega
  go_enter Try.func19, Try.ntmps19
  go_wp2_with fail
  refine HN.out.mono ?_
  rintro e w1 ⟨g, b, cap, rfl, hf, hg, hb, hbl⟩
  have ha := HA.out g b cap w1 hf (fun w' hk => TRow.below HT.out (hbl.trans (hk.below hbl.size (fun k hk => by omega))))
  have HAA := Lib.hid ha
  have HB := Lib.hid hbl
  clear ha hf hbl HN HA
  go_wp2_with fail
  refine HAA.out.mono ?_
  rintro e w2 ⟨rfl, hf2, hk2⟩
  have HE := Lib.hid (show OfLeft R w (.returned (.pointer (some ⟨g, 0, none⟩))) w2 from ⟨g, b, cap, rfl, hf2, hg, hb, HB.out.trans (hk2.below HB.out.size (fun k hk => by omega))⟩)
  clear hf2 hk2
  go_wp2_with fail
  go_ret
  exact HE.out

/-! ### a filter that nobody made -/
/-- A pointer to nothing, or to a filter without bytes. -/
def Nob (w : World) (p : Option Addr) : Prop := p = none ∨ ∃ g, p = some ⟨g, 0, none⟩ ∧ w.cell? ⟨g, 0, none⟩ = some (.slice none 0 0)
theorem Nob.made {w : World} {p : Option Addr} (h : Nob w p) : Calls Try.prog 27 #[.pointer p] w fun e w' => e = .returned (.bool false) ∧ w = w' := by
  rcases h with rfl | ⟨g, rfl, hc⟩
  · exact made_none w
  · exact made_bare g w hc
set_option maxRecDepth 100000 in
theorem Nob.add {w : World} {p : Option Addr} (h : Nob w p) (ts : Value) : Calls Try.prog 12 #[.pointer p, ts] w fun e w' => e = .returned (.int .i64 0) ∧ w = w' := by
  have HM := Lib.hid h.made
  clear h
  go_enter Try.func12, Try.ntmps12
  go_wp2_with fail
  refine HM.out.mono ?_
  rintro e w1 ⟨rfl, rfl⟩
  go_wp2_with fail
  go_ret
  exact ⟨rfl, rfl⟩
set_option maxRecDepth 100000 in
theorem Nob.may {w : World} {p : Option Addr} (h : Nob w p) (s : Value) : Calls Try.prog 13 #[.pointer p, s] w fun e w' => e = .returned (.bool true) ∧ w = w' := by
  have HM := Lib.hid h.made
  clear h
  go_enter Try.func13, Try.ntmps13
  go_wp2_with fail
  refine HM.out.mono ?_
  rintro e w1 ⟨rfl, rfl⟩
  go_wp2_with fail
  go_ret
  exact ⟨rfl, rfl⟩
set_option maxRecDepth 100000 in
theorem Nob.bits {w : World} {p : Option Addr} (h : Nob w p) : Calls Try.prog 16 #[.pointer p] w fun e w' => e = .returned (.int .i64 0) ∧ w = w' := by
  have HM := Lib.hid h.made
  clear h
  go_enter Try.func16, Try.ntmps16
  go_wp2_with fail
  refine HM.out.mono ?_
  rintro e w1 ⟨rfl, rfl⟩
  go_wp2_with fail
  go_ret
  exact ⟨rfl, rfl⟩
set_option maxRecDepth 100000 in
theorem Nob.count {w : World} {p : Option Addr} (h : Nob w p) : Calls Try.prog 17 #[.pointer p] w fun e w' => e = .returned (.int .i64 0) ∧ w = w' := by
  have HM := Lib.hid h.made
  clear h
  go_enter Try.func17, Try.ntmps17
  go_wp2_with fail
  refine HM.out.mono ?_
  rintro e w1 ⟨rfl, rfl⟩
  go_wp2_with fail
  go_ret
  exact ⟨rfl, rfl⟩
set_option maxRecDepth 100000 in
theorem Nob.bytes {w : World} {p : Option Addr} (h : Nob w p) : Calls Try.prog 15 #[.pointer p] w fun e w' => e = .returned (.slice none 0 0) ∧ w = w' := by
  have HM := Lib.hid h.made
  clear h
  go_enter Try.func15, Try.ntmps15
  go_wp2_with fail
  refine HM.out.mono ?_
  rintro e w1 ⟨rfl, rfl⟩
  go_wp2_with fail
  go_ret
  exact ⟨rfl, rfl⟩
end Go.Proofs.Ytjogjmkfkmbjdaa.BL
