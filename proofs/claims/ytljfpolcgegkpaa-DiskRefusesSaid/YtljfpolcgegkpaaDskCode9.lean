/-
  The code's copied: a file by value with bytes of its own. Condition: bytes that memory bears.
-/
import Derived.Test.YtljfpolcgegkpaaDskRead
set_option linter.unusedVariables false
namespace Go.Proofs.Ytljfpolcgegkpaa.DK
open Go.RowKit Go.Proofs.Ytljfpolcgegkpaa.MM Go.Maps

set_option maxRecDepth 100000 in
theorem copied_any (v : Value) (l : List UInt8) (s : Int) (w : World) (h : BRow w v l) (hl : l.length ≤ 1000000000000) : Calls Try.prog 46 #[.agg #[v, .int .i64 s]] w fun e w' => ∃ v', e = .returned (.agg #[v', .int .i64 s]) ∧ OwnB w.heap.size w' v' l ∧ Below w.heap.size w w' := by
  obtain ⟨p, cap, rfl, _, _⟩ := h.shape
  obtain ⟨W, hW⟩ : ∃ W, (w.alloc (.cells #[.slice p l.length cap, .int .i64 s] 82)).alloc (.cells #[.slice none 0 0, .int .i64 0] 82) = W := ⟨_, rfl⟩
  have hsz : W.heap.size = w.heap.size + 2 := by rw [← hW]; simp
  have hb : Below w.heap.size w W := by rw [← hW]; exact ((Below.refl _ _).alloc (Nat.le_refl _) _).alloc (by simp) _
  have hf : FV W w.heap.size (.slice p l.length cap) s := by rw [← hW]; exact (fv_new w _ s).below ((Below.refl _ _).alloc (Nat.le_refl _) _) (by simp)
  have hg : FV W (w.heap.size + 1) (.slice none 0 0) 0 := by
    have := fv_new (w.alloc (.cells #[.slice p l.length cap, .int .i64 s] 82)) (.slice none 0 0) 0
    rw [hW, show (w.alloc (.cells #[.slice p l.length cap, .int .i64 s] 82)).heap.size = w.heap.size + 1 by simp] at this
    exact this
  have HCL := Lib.hid (clone_any _ l W (BRow.below h hb) hl)
  have HF := Lib.hid hf
  have HG := Lib.hid hg
  have HB := Lib.hid hb
  have HW := Lib.hid hW
  have HSZ := Lib.hid hsz
  clear hW hb hf hg h hsz
  go_enter Try.func46, Try.ntmps46
  go_wp2_with fail
  rw [HW.out]
  refine HCL.out.mono ?_
  rintro e w1 ⟨v1, rfl, hown, hb1⟩
  have hsz := HSZ.out
  have hf1 := HF.out.below hb1 HF.out.lt
  have hg1 := HG.out.below hb1 HG.out.lt
  obtain ⟨p1, c1, rfl, _, _⟩ := hown.brow.shape
  have c0 := hf1.f0
  have c2 := hf1.f1
  have c3 := fun k => hf1.free k
  have d0 := hg1.f0
  have d1 := hg1.f1
  have d2 := fun k => hg1.free k
  have hg2 : FV (w1.setCell ⟨w.heap.size, 0, none⟩ (.slice p1 l.length c1)) (w.heap.size + 1) (.slice none 0 0) 0 := (Below.heap_setCell _ _ _ _ (fun e => by have e : w.heap.size + 1 = w.heap.size := e; omega)).trans hg1
  have HE := Lib.hid (hg2.two (.slice p1 l.length c1) s)
  have hbw := HB.out.trans (hb1.mono HB.out.size)
  have HBE := Lib.hid (show Below w.heap.size w _ from ((hbw.setCell (p := ⟨w.heap.size, 0, none⟩) (Nat.le_refl _) (.slice p1 l.length c1)).setCell (p := ⟨w.heap.size + 1, 0, none⟩) (Nat.le_succ _) (.slice p1 l.length c1)).setCell (p := ⟨w.heap.size + 1, 1, none⟩) (Nat.le_succ _) (.int .i64 s))
  have HO := Lib.hid (show OwnB w.heap.size _ (.slice p1 l.length c1) l from OwnB.weaken (B := W.heap.size) (ownsRow_setCell_below (ownsRow_setCell_below (ownsRow_setCell_below hown (a := ⟨w.heap.size, 0, none⟩) (by show w.heap.size < W.heap.size; omega) (.slice p1 l.length c1)) (a := ⟨w.heap.size + 1, 0, none⟩) (by show w.heap.size + 1 < W.heap.size; omega) (.slice p1 l.length c1)) (a := ⟨w.heap.size + 1, 1, none⟩) (by show w.heap.size + 1 < W.heap.size; omega) (.int .i64 s)) (by omega))
  clear hown hb1 hf1 hg1 hg2 hbw
  go_wp2_with fail
  refine bodyPost_ret (v := .agg #[.slice p1 l.length c1, .int .i64 s]) (results_cell_row rfl _ _ (w.heap.size + 1) 82 _ (0, 0) _ rfl HE.out Try.underlying82 rfl infoCFile) rfl ⟨_, rfl, HO.out, HBE.out⟩
end Go.Proofs.Ytljfpolcgegkpaa.DK
