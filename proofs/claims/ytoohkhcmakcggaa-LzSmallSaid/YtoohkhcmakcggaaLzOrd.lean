/-
  The code's orders: what is left of packed bytes, and what the ones ahead stand for, behind a pointer: take, run. Condition: rows stay below 2^40 bytes.
-/
import Derived.Test.YtoohkhcmakcggaaLzGoA
set_option linter.unusedVariables false
namespace Go.Proofs.Ytoohkhcmakcggaa.LZ
open Go.RowKit Go.Proofs.Ytoohkhcmakcggaa.MM

/-- Block g: what is left (it lies below block B), what is made (of the call's own, behind g). -/
def OrdAt (w : World) (g : Nat) (vb vm : Value) : Prop := w.heap[g]? = some (.cells #[vb, vm] 51 (0, 0))
theorem OrdAt.left {w : World} {g : Nat} {vb vm : Value} (h : OrdAt w g vb vm) : w.cell? ⟨g, 0, none⟩ = some vb := by rw [cell_of_row w g 0 _ _ _ h]; rfl
theorem OrdAt.made {w : World} {g : Nat} {vb vm : Value} (h : OrdAt w g vb vm) : w.cell? ⟨g, 1, none⟩ = some vm := by rw [cell_of_row w g 1 _ _ _ h]; rfl
theorem OrdAt.free {w : World} {g : Nat} {vb vm : Value} (h : OrdAt w g vb vm) (k : Nat) : w.frozen? ⟨g, k, none⟩ = false := frozen_of_row w g k _ _ h
theorem OrdAt.lt {w : World} {g : Nat} {vb vm : Value} (h : OrdAt w g vb vm) : g < w.heap.size := (Array.getElem?_eq_some_iff.1 h).1
theorem OrdAt.below {w w' : World} {g B : Nat} {vb vm : Value} (h : OrdAt w g vb vm) (hb : Below B w w') (hg : g < B) : OrdAt w' g vb vm := (hb.block g hg).trans h
theorem OrdAt.set0 {w : World} {g : Nat} {vb vm : Value} (h : OrdAt w g vb vm) (v : Value) : OrdAt (w.setCell ⟨g, 0, none⟩ v) g v vm := heap_setCell_same w g 0 _ _ v h
theorem OrdAt.set1 {w : World} {g : Nat} {vb vm : Value} (h : OrdAt w g vb vm) (v : Value) : OrdAt (w.setCell ⟨g, 1, none⟩ v) g vb v := heap_setCell_same w g 1 _ _ v h
theorem own_set {w : World} {B g i : Nat} {v u : Value} {l : List UInt8} (h : OwnB B w v l) (hg : g < B) : OwnB B (w.setCell ⟨g, i, none⟩ u) v l := ownsRow_setCell_below h (a := ⟨g, i, none⟩) hg u
theorem below_set {w : World} {B g i : Nat} (hg : B ≤ g) (u : Value) : Below B w (w.setCell ⟨g, i, none⟩ u) := (Below.refl B w).setCell (p := ⟨g, i, none⟩) hg u
def OrdSt (B g : Nat) (w : World) (l X : List UInt8) : Prop := B ≤ g ∧ ∃ vb vm, OrdAt w g vb vm ∧ BIn B w vb l ∧ OwnB (g + 1) w vm X

set_option maxRecDepth 100000 in
theorem take_no (B g n : Nat) (l X : List UInt8) (w : World) (h : OrdSt B g w l X) (hn : l.length < n) :
    Calls Try.prog 28 #[.pointer (some ⟨g, 0, none⟩), .int .i64 n] w fun e w' => e = .returned (.tuple #[.slice none 0 0, .bool false]) ∧ w = w' := by
  obtain ⟨hB, vb, vm, ho, hb, hm⟩ := h
  obtain ⟨p, cap, rfl, hlc, hcm⟩ := hb.shape
  have hc := ho.left
  have t1 : decide ((n : Int) > (l.length : Int)) = true := by simp; omega
  clear ho hb hm
  go_enter Try.func28, Try.ntmps28
  go_wp2_with fail
  go_ret2
  exact ⟨rfl, rfl⟩
def TakeLeft (B g : Nat) (a l X : List UInt8) (w : World) (e : Ending) (w' : World) : Prop := ∃ v, e = .returned (.tuple #[v, .bool true]) ∧ BIn B w' v a ∧ OrdSt B g w' l X ∧ Below g w w'
set_option maxRecDepth 100000 in
theorem take_yes (B g n : Nat) (l X : List UInt8) (w : World) (h : OrdSt B g w l X) (hn : n ≤ l.length) :
    Calls Try.prog 28 #[.pointer (some ⟨g, 0, none⟩), .int .i64 n] w (TakeLeft B g (l.take n) (l.drop n) X w) := by
  obtain ⟨hB, vb, vm, ho, hb, hm⟩ := h
  obtain ⟨p, cap, rfl, hlc, hcm⟩ := hb.shape
  unfold maxLen at hcm
  have hc := ho.left
  have hf := ho.free 0
  have t1 : decide ((n : Int) > (l.length : Int)) = false := by simp; omega
  have HF := Lib.hid (show ∀ u, BIn B w u (l.drop n) → TakeLeft B g (l.take n) (l.drop n) X w (.returned (.tuple #[.slice p n cap, .bool true])) (w.setCell ⟨g, 0, none⟩ u) from
    fun u hu => ⟨_, rfl, (hb.take n hn).below (below_set hB u), ⟨hB, u, vm, ho.set0 u, hu.below (below_set hB u), own_set hm (by omega)⟩, below_set (Nat.le_refl _) u⟩)
  have HD := Lib.hid (hb.drop3 n hn)
  clear ho hb hm
  go_enter Try.func28, Try.ntmps28
  go_wp2_with fail
  · have hcn : cap = n := by assumption
    subst hcn
    go_ret2
    exact HF.out _ (HD.out.1 rfl)
  · go_ret2
    exact HF.out _ (HD.out.2 (by assumption))
set_option maxRecDepth 100000 in
theorem run_no (B g n : Nat) (l X : List UInt8) (w : World) (h : OrdSt B g w l X) (hn : l.length < n) (hX : X.length ≤ 1000000000000) :
    Calls Try.prog 29 #[.pointer (some ⟨g, 0, none⟩), .int .i64 n] w fun e w' => e = .returned (.bool false) ∧ Below g w w' := by
  have HT := Lib.hid (take_no B g n l X w h hn)
  obtain ⟨hB, vb, vm, ho, hb, hm⟩ := h
  have hc := ho.made
  have hsz := ho.lt
  obtain ⟨px, capx, rfl, _, _⟩ := hm.brow.shape
  have HF := Lib.hid (fun W (hb : Below (g + 1) w W) => (ho.below hb (by omega)).free 1)
  have HC := Lib.hid (fun W (hb : Below (g + 1) w W) => (ho.below hb (by omega)).made)
  have HM := Lib.hid hm
  have HN := Lib.hid (BRow.nil_ w)
  clear ho hb hm
  go_enter Try.func29, Try.ntmps29
  go_wp2_with fail
  refine HT.out.mono ?_
  rintro e w1 ⟨rfl, rfl⟩
  have hl1 : X.length + ([] : List UInt8).length ≤ 140737488355328 := by simp; omega
  have hg1 : g + 1 ≤ w.heap.size := by omega
  go_wp2_with (at_builtin; refine wpList_append_bytes rfl _ _ rfl (g + 1) _ X rfl HM.out _ [] rfl HN.out hl1 hg1 ?_)
  intro v1 w1 hown1 hb1
  have hf1 := HF.out w1 hb1
  have hc1 := HC.out w1 hb1
  have HB := Lib.hid (Below.setCell (hb1.mono (Nat.le_succ g)) (p := ⟨g, 1, none⟩) (Nat.le_refl g) v1)
  obtain ⟨py, capy, rfl, _, _⟩ := hown1.brow.shape
  clear hown1
  go_wp2_with fail
  go_ret
  exact ⟨rfl, HB.out⟩
def OrdLeft (B g : Nat) (l X : List UInt8) (w : World) (e : Ending) (w' : World) : Prop := e = .returned (.bool true) ∧ OrdSt B g w' l X ∧ Below g w w'
set_option maxRecDepth 100000 in
theorem run_yes (B g n : Nat) (l X : List UInt8) (w : World) (h : OrdSt B g w l X) (hn : n ≤ l.length) (hX : X.length ≤ 1000000000000) (hl : l.length ≤ 1000000000000) :
    Calls Try.prog 29 #[.pointer (some ⟨g, 0, none⟩), .int .i64 n] w (OrdLeft B g (l.drop n) (X ++ l.take n) w) := by
  have HT := Lib.hid (take_yes B g n l X w h hn)
  have htl : (l.take n).length ≤ 1000000000000 := by rw [List.length_take]; omega
  have hdl : (l.drop n).length ≤ 1000000000000 := by rw [List.length_drop]; omega
  generalize l.take n = a at *
  generalize l.drop n = l2 at *
  obtain ⟨Y, hY⟩ : ∃ Y, X ++ a = Y := ⟨_, rfl⟩
  rw [hY]
  have HY := Lib.hid hY
  clear h hY
  go_enter Try.func29, Try.ntmps29
  go_wp2_with fail
  refine HT.out.mono ?_
  rintro e w1 ⟨v, rfl, hv, ⟨hB, vb, vm, ho, hb, hm⟩, hb1⟩
  obtain ⟨pa, capa, rfl, _, _⟩ := hv.shape
  obtain ⟨px, capx, rfl, _, _⟩ := hm.brow.shape
  have hc := ho.made
  have hsz := ho.lt
  have HO := Lib.hid ho
  have HM := Lib.hid hm
  have HV := Lib.hid (hv.row (by omega))
  have HB := Lib.hid hb
  have HB1 := Lib.hid hb1
  have hl1 : X.length + a.length ≤ 140737488355328 := by omega
  have hg1 : g + 1 ≤ w1.heap.size := by omega
  clear ho hm hv hb hb1 HT
  go_wp2_with (at_builtin; refine wpList_append_bytes rfl _ _ rfl (g + 1) _ X rfl HM.out _ a rfl HV.out hl1 hg1 ?_)
  intro v2 w2 hown2 hb2
  rw [HY.out] at hown2
  have ho2 := HO.out.below hb2 (by omega)
  have hf2 := ho2.free 1
  have hc2 := ho2.made
  obtain ⟨py, capy, rfl, _, _⟩ := hown2.brow.shape
  have HB2 := Lib.hid (Below.setCell (HB1.out.trans (hb2.mono (Nat.le_succ g))) (p := ⟨g, 1, none⟩) (Nat.le_refl g) (.slice py Y.length capy))
  have HS := Lib.hid (show OrdSt B g (w2.setCell ⟨g, 1, none⟩ (.slice py Y.length capy)) l2 Y from
    ⟨hB, _, _, ho2.set1 _, (HB.out.below (hb2.mono (by omega))).below (below_set hB _), own_set hown2 (by omega)⟩)
  clear hown2 hb2 ho2 HO HM HV HB HB1
  go_wp2_with fail
  go_ret
  exact ⟨rfl, HS.out, HB2.out⟩
end Go.Proofs.Ytoohkhcmakcggaa.LZ
