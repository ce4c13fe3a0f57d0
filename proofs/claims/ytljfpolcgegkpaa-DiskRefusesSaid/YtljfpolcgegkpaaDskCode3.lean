/-
  The code's find. Condition: names are no longer than memory bears.
-/
import Derived.Test.YtljfpolcgegkpaaDskCode2
set_option linter.unusedVariables false
namespace Go.Proofs.Ytljfpolcgegkpaa.DK
open Go.RowKit Go.Proofs.Ytljfpolcgegkpaa.MM Go.Maps

/-! ### a file in a variable -/
def FV (w : World) (g : Nat) (v : Value) (s : Int) : Prop := w.heap[g]? = some (.cells #[v, .int .i64 s] 82 (0, 0))
theorem FV.f0 {w : World} {g : Nat} {v : Value} {s : Int} (h : FV w g v s) : w.cell? ⟨g, 0, none⟩ = some v := by rw [cell_of_row w g 0 _ _ _ h]; rfl
theorem FV.f1 {w : World} {g : Nat} {v : Value} {s : Int} (h : FV w g v s) : w.cell? ⟨g, 1, none⟩ = some (.int .i64 s) := by rw [cell_of_row w g 1 _ _ _ h]; rfl
theorem FV.free {w : World} {g : Nat} {v : Value} {s : Int} (h : FV w g v s) (k : Nat) : w.frozen? ⟨g, k, none⟩ = false := frozen_of_row w g k _ _ h
theorem FV.lt {w : World} {g : Nat} {v : Value} {s : Int} (h : FV w g v s) : g < w.heap.size := (Array.getElem?_eq_some_iff.1 h).1
theorem FV.below {w w' : World} {g B : Nat} {v : Value} {s : Int} (h : FV w g v s) (hb : Below B w w') (hg : g < B) : FV w' g v s := (hb.block g hg).trans h
theorem FV.kep {S : Nat → Prop} {w w' : World} {g : Nat} {v : Value} {s : Int} (h : FV w g v s) (hk : Kep S w w') (hg : S g) : FV w' g v s := (hk.block g h.lt hg).trans h
theorem fv_new (w : World) (v : Value) (s : Int) : FV (w.alloc (.cells #[v, .int .i64 s] 82)) w.heap.size v s := heap_alloc_new _ _
theorem FV.two {w : World} {g : Nat} {v0 : Value} {s0 : Int} (h : FV w g v0 s0) (v : Value) (s : Int) : FV ((w.setCell ⟨g, 0, none⟩ v).setCell ⟨g, 1, none⟩ (.int .i64 s)) g v s := by
  have h1 := heap_setCell_same w g 0 _ _ v h
  have h2 := heap_setCell_same _ g 1 _ _ (.int .i64 s) h1
  exact h2
theorem infoCFile : (Try.prog.info? 82).map (·.size) = some 2 := by kernel_rfl
theorem results_file_tmp {fn : Func} {p u : Tmp} (h : fn.results = #[.cell p 82, .tmp u]) (tmps : Array Value) (w : World) (g : Nat) (v : Value) (s : Int)
    (hp : tmps.getD p undef = .pointer (some ⟨g, 0, none⟩)) (hg : FV w g v s) :
    (results fn tmps).run Try.prog w = .ok (.tuple #[.agg #[v, .int .i64 s], tmps.getD u undef]) w := by
  have hp' : tmps[p]?.getD undef = .pointer (some ⟨g, 0, none⟩) := by simpa using hp
  simp [results, h, hp', asAddr, run_loadVar_row w g 82 82 _ (0, 0) _ hg Try.underlying82 rfl infoCFile]

/-! ### find -/
def findE (ok st there : Bool) : Int := if ok then (if st then 63 else if there then 0 else 61) else 60
def FindC (ok st there : Bool) (v : Value) (s : Int) (w : World) (e : Ending) (w' : World) : Prop :=
  e = .returned (.tuple #[if findE ok st there = 0 then .agg #[v, .int .i64 s] else .agg #[.slice none 0 0, .int .i64 0], .int .i64 (findE ok st there)]) ∧ Below w.heap.size w w'
set_option maxRecDepth 100000 in
set_option maxHeartbeats 2000000 in
theorem find_raw (B g mb : Nat) (others : Value) (ns : List (List UInt8)) (n : List UInt8) (st there : Bool) (p : Option Addr) (m cap : Nat) (s : Int) (w : World) (hB : B ≤ w.heap.size) (hg : g < w.heap.size)
    (h0 : w.cell? ⟨g, 0, none⟩ = some (.map (some mb))) (h3 : w.cell? ⟨g, 3, none⟩ = some (.bool st)) (hn : n.length ≤ 1000000000000) (hr : SIn B w others ns) (hl : ns.length ≤ 1000000000000) (hnl : ∀ n ∈ ns, n.length ≤ 1000000000000)
    (hlook : ∀ W, Below w.heap.size w W → (Instr.lookup 61 (.map (some mb)) (.string ⟨n.toArray⟩) true).run Try.prog W = .ok (.tuple #[.agg #[.slice p m cap, .int .i64 s], .bool there]) W) :
    Calls Try.prog 44 #[.pointer (some ⟨g, 0, none⟩), .string ⟨n.toArray⟩, others] w (FindC (namedL n && !ns.any (fun n => !namedL n)) st there (.slice p m cap) s w) := by
  obtain ⟨po, capo, rfl, _, _⟩ := hr.shape
  have hbx : ∀ o, Below w.heap.size w (w.alloc o) := fun o => (Below.refl _ _).alloc (Nat.le_refl _) _
  obtain ⟨x, hx⟩ : ∃ x : ByteArray, (⟨n.toArray⟩ : ByteArray) = x := ⟨_, rfl⟩
  obtain ⟨W0, hW0⟩ : ∃ W, w.alloc (.cells #[.slice none 0 0, .int .i64 0] 82) = W := ⟨_, rfl⟩
  have hb0 : Below w.heap.size w W0 := by rw [← hW0]; exact hbx _
  have hf0 : FV W0 w.heap.size (.slice none 0 0) 0 := by rw [← hW0]; exact fv_new w _ 0
  have HM := Lib.hid (made_yes g mb W0 (by rw [hb0.cell (p := ⟨g, 0, none⟩) hg]; exact h0))
  have HN := Lib.hid (mnb_any n W0 hn)
  have HC := Lib.hid (fun W (hW : Below w.heap.size w W) => cons_any B _ ns W (hr.below (hW.mono hB)) (Nat.le_trans hB hW.size) hl hnl)
  have HG := Lib.hid (fun W (hW : Below w.heap.size w W) => (show W.cell? ⟨g, 0, none⟩ = some (.map (some mb)) ∧ W.cell? ⟨g, 3, none⟩ = some (.bool st) from ⟨by rw [hW.cell (p := ⟨g, 0, none⟩) hg]; exact h0, by rw [hW.cell (p := ⟨g, 3, none⟩) hg]; exact h3⟩))
  have HL := Lib.hid hlook
  have HB0 := Lib.hid hb0
  have HF0 := Lib.hid hf0
  rw [hx] at HN HL
  rw [hx]
  generalize namedL n = bn at *
  generalize ns.any (fun n => !namedL n) = bo at *
  have hs0 : W0.heap.size = w.heap.size + 1 := by rw [← hW0]; simp
  clear hr hnl hlook hx h0 h3 hb0 hf0 hbx
  have HW0 := Lib.hid hW0
  have HS0 := Lib.hid hs0
  clear hW0 hs0
  go_enter Try.func44, Try.ntmps44
  go_wp2_with fail
  rw [HW0.out]
  refine HM.out.mono ?_
  rintro e w' ⟨rfl, rfl⟩
  go_wp2_with fail
  refine HN.out.mono ?_
  rintro e W1 ⟨rfl, hb1⟩
  have hs0 := HS0.out
  have hbw1 := HB0.out.trans (hb1.mono (by omega))
  have hf1 := HF0.out.below hb1 HF0.out.lt
  have HB1 := Lib.hid hbw1
  have HF1 := Lib.hid hf1
  clear hb1 hbw1 hf1 HM HN
  cases bn with
  | false =>
    have c0 := HF1.out.f0
    have c1 := HF1.out.f1
    have c2 := fun k => HF1.out.free k
    have HE := Lib.hid (show FV _ _ _ _ from HF1.out.two (.slice none 0 0) 0)
    have HBE := Lib.hid (show Below w.heap.size w _ from (HB1.out.setCell (p := ⟨w.heap.size, 0, none⟩) (Nat.le_refl _) (.slice none 0 0)).setCell (p := ⟨w.heap.size, 1, none⟩) (Nat.le_refl _) (.int .i64 0))
    go_wp2_with fail
    refine bodyPost_ret (results_file_tmp rfl _ _ w.heap.size _ _ rfl HE.out) rfl ?_
    exact ⟨rfl, HBE.out⟩
  | true =>
    go_wp2_with fail
    refine (HC.out _ HB1.out).mono ?_
    rintro e W2 ⟨rfl, hb2⟩
    have hbw2 := HB1.out.trans (hb2.mono HB1.out.size)
    have hf2 := HF1.out.below hb2 HF1.out.lt
    have HB2 := Lib.hid hbw2
    have HF2 := Lib.hid hf2
    have c0 := HF2.out.f0
    have c1 := HF2.out.f1
    have c2 := fun k => HF2.out.free k
    obtain ⟨h0, h3⟩ := HG.out W2 HB2.out
    have hlt2 := HF2.out.lt
    clear hb2 hbw2 hf2 HC HB1 HF1
    cases bo with
    | true =>
      have HE := Lib.hid (show FV _ _ _ _ from HF2.out.two (.slice none 0 0) 0)
      have HBE := Lib.hid (show Below w.heap.size w _ from (HB2.out.setCell (p := ⟨w.heap.size, 0, none⟩) (Nat.le_refl _) (.slice none 0 0)).setCell (p := ⟨w.heap.size, 1, none⟩) (Nat.le_refl _) (.int .i64 0))
      go_wp2_with fail
      refine bodyPost_ret (results_file_tmp rfl _ _ w.heap.size _ _ rfl HE.out) rfl ?_
      exact ⟨rfl, HBE.out⟩
    | false =>
      cases st with
      | true =>
        have HE := Lib.hid (show FV _ _ _ _ from HF2.out.two (.slice none 0 0) 0)
        have HBE := Lib.hid (show Below w.heap.size w _ from (HB2.out.setCell (p := ⟨w.heap.size, 0, none⟩) (Nat.le_refl _) (.slice none 0 0)).setCell (p := ⟨w.heap.size, 1, none⟩) (Nat.le_refl _) (.int .i64 0))
        go_wp2_with fail
        refine bodyPost_ret (results_file_tmp rfl _ _ w.heap.size _ _ rfl HE.out) rfl ?_
        exact ⟨rfl, HBE.out⟩
      | false =>
        have hlk := HL.out W2 HB2.out
        cases there with
        | false =>
          have HE := Lib.hid (show ∀ o, FV (World.alloc _ o) _ _ _ from fun o => (HF2.out.two (.slice none 0 0) 0).below ((Below.refl _ _).alloc (Nat.le_refl _) o) (by simp; omega))
          have HBE := Lib.hid (show ∀ o, Below w.heap.size w (World.alloc _ o) from fun o => ((HB2.out.setCell (p := ⟨w.heap.size, 0, none⟩) (Nat.le_refl _) (.slice none 0 0)).setCell (p := ⟨w.heap.size, 1, none⟩) (Nat.le_refl _) (.int .i64 0)).alloc (by simp; omega) o)
          go_wp2_with fail
          refine bodyPost_ret (results_file_tmp rfl _ _ w.heap.size _ _ rfl (HE.out _)) rfl ?_
          exact ⟨rfl, HBE.out _⟩
        | true =>
          have HE := Lib.hid (show ∀ o, FV (World.alloc _ o) _ _ _ from fun o => (HF2.out.two (.slice p m cap) s).below ((Below.refl _ _).alloc (Nat.le_refl _) o) (by simp; omega))
          have HBE := Lib.hid (show ∀ o, Below w.heap.size w (World.alloc _ o) from fun o => ((HB2.out.setCell (p := ⟨w.heap.size, 0, none⟩) (Nat.le_refl _) (.slice p m cap)).setCell (p := ⟨w.heap.size, 1, none⟩) (Nat.le_refl _) (.int .i64 s)).alloc (by simp; omega) o)
          go_wp2_with fail
          refine bodyPost_ret (results_file_tmp rfl _ _ w.heap.size _ _ rfl (HE.out _)) rfl ?_
          exact ⟨rfl, HBE.out _⟩
end Go.Proofs.Ytljfpolcgegkpaa.DK
