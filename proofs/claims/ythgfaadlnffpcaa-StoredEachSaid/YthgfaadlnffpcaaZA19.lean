/-
  Which events may be, how great they are: the code's Name, Check, Size, and the reference's. No condition. A block of three cells that is written; named results of which the first is such a block. No program of its own; no condition. Has an event more text than is looked at: it is told. No condition.
-/
import Derived.Test.YthgfaadlnffpcaaZA12
import Derived.Test.YthgfaadlnffpcaaZA18
import Derived.Test.YthgfaadlnffpcaaZA2
set_option linter.unusedVariables false
namespace Go.Proofs.Ythgfaadlnffpcaa.EV
open Go Go.RowKit Go.Proofs.Ythgfaadlnffpcaa.MM Go.Proofs.Ythgfaadlnffpcaa.EM
open Go.Proofs.Ythgfaadlnffpcaa.TK (nameL isname_any risname_any TruthLeft str_size)

set_option maxRecDepth 100000 in
theorem name_any (l : List UInt8) (w : World) : Calls Try.prog 47 #[.string ⟨l.toArray⟩] w (TruthLeft (nameL l) w) := by
  have h := Lib.hid (isname_any ⟨l.toArray⟩ w)
  rw [str_list] at h
  go_enter Try.func47, Try.ntmps47
  go_wp2_with fail
  refine h.out.mono ?_
  rintro e w2 ⟨rfl, hb⟩
  have HB := Lib.hid hb
  clear h hb
  go_wp2_with fail
  go_ret
  exact ⟨rfl, HB.out⟩
set_option maxRecDepth 100000 in
theorem rname_any (l : List UInt8) (w : World) : Calls Try.prog 67 #[.string ⟨l.toArray⟩] w (TruthLeft (nameL l) w) := by
  by_cases h : l.length ≤ 1000000000000
  · have := risname_any ⟨l.toArray⟩ w (by rw [str_sz]; exact h)
    rw [str_list] at this
    exact this
  · have e : nameL l = false := by unfold TK.nameL; rw [decide_eq_false (show ¬ (1 ≤ l.length ∧ l.length ≤ 32) by omega)]; simp
    rw [e]
    have t1 : decide ((l.length : Int) < 1) = false := by rw [decide_eq_false_iff_not]; omega
    have t2 : decide (l.length < 1) = false := by rw [decide_eq_false_iff_not]; omega
    have t3 : decide ((l.length : Int) > 32) = true := by rw [decide_eq_true_eq]; omega
    have t4 : decide (32 < l.length) = true := by rw [decide_eq_true_eq]; omega
    have hs := str_sz l
    clear e h
    go_enter Try.func67, Try.ntmps67
    go_wp2_with fail
    go_ret
    exact ⟨rfl, Below.refl _ _⟩
def IntLeft (z : Int) (w : World) (e : Ending) (w' : World) : Prop := e = .returned (.int .i64 z) ∧ Below w.heap.size w w'

set_option maxRecDepth 100000 in
set_option maxHeartbeats 2000000 in
theorem check_any (z : Int) (v : Value) (fs : List Fld) (w : World) (hr : RAny fldC w v fs) : Calls Try.prog 28 #[.agg #[.int .i64 z, v]] w (IntLeft (checkE (z, fs)) w) := by
  obtain ⟨p, cap, rfl, hlc, hcm, _⟩ := hr.shape
  unfold maxLen at hcm
  by_cases h16 : 16 < fs.length
  · have t1 : decide ((fs.length : Int) > 16) = true := by rw [decide_eq_true_eq]; omega
    have e : checkE (z, fs) = 3 := by unfold checkE; rw [if_pos h16]
    rw [e]
    clear e hr h16
    have hb : Below w.heap.size w (w.alloc (.cells #[.int .i64 z, .slice p fs.length cap] 43)) := (Below.refl _ _).alloc (Nat.le_refl _) _
    have HB := Lib.hid hb
    clear hb
    go_enter Try.func28, Try.ntmps28
    go_wp2_with fail
    go_ret
    exact ⟨rfl, HB.out⟩
  · have t1 : decide ((fs.length : Int) > 16) = false := by rw [decide_eq_false_iff_not]; omega
    obtain ⟨RES, hRES⟩ : ∃ RES, checkE (z, fs) = RES := ⟨_, rfl⟩
    have h0 : checkF (fs.drop 0) = RES := by rw [← hRES]; unfold checkE; rw [if_neg h16]; rfl
    rw [hRES]
    have hb : Below w.heap.size w (w.alloc (.cells #[.int .i64 z, .slice p fs.length cap] 43)) := (Below.refl _ _).alloc (Nat.le_refl _) _
    have HB := Lib.hid hb
    have H0 := Lib.hid h0
    have HR := Lib.hid hr
    clear hb h0 hr hRES h16
    go_enter Try.func28, Try.ntmps28
    go_wp2_with fail
    go_loopw [12] (fun iv wr => ∃ i : Nat, i ≤ fs.length ∧ iv = .int .i64 i ∧ Hid (checkF (fs.drop i) = RES) ∧ Hid (Below w.heap.size w wr)) (fun iv _ => fs.length - (intOf iv).toNat)
    case atStart => exact ⟨0, by omega, rfl, H0, HB⟩
    case round =>
      obtain ⟨i, hi, rfl, HI, HB1⟩ := hrel
      clear H0 HB
      by_cases hlt : i < fs.length
      · have q1 : decide ((i : Int) < (fs.length : Int)) = true := by rw [decide_eq_true_eq]; omega
        have q2 : decide (i < fs.length) = true := by rw [decide_eq_true_eq]; omega
        obtain ⟨b, off, rfl, hbl, _, c1, c2⟩ := fld_at (HR.out.below HB1.out) hlt
        have hnext := HI.out
        rw [checkF_next hlt] at hnext
        generalize fs[i].1 = n at *
        generalize fs[i].2 = x at *
        have HN := Lib.hid hnext
        have HLT := Lib.hid hlt
        have hk := fun W => name_any n W
        generalize nameL n = nb at *
        have HK := Lib.hid hk
        have hwr := HB1.out.size
        clear hnext HI hk hlt
        go_wp2_with fail
        refine (HK.out _).mono ?_
        rintro e w2 ⟨rfl, hb2⟩
        have hb3 : Below wr.heap.size wr w2 := ((Below.refl _ wr).alloc (Nat.le_refl _) _).trans (hb2.mono (by simp))
        have cx : w2.cell? ⟨wr.heap.size, 1, none⟩ = some (.string ⟨x.toArray⟩) := (hb2.cell (p := ⟨wr.heap.size, 1, none⟩) (by simp)).trans (new_two wr _ _ _).2
        have HB2 := Lib.hid (HB1.out.trans (hb3.mono hwr))
        clear hb2 hb3 HK c1 c2 hwr
        cases nb with
        | false =>
          have hn := HN.out
          rw [if_pos rfl] at hn
          subst hn
          clear HN
          go_wp2_with fail
          go_ret
          exact ⟨rfl, HB2.out⟩
        | true =>
          by_cases h4 : 4096 < x.length
          · have q3 : decide ((x.length : Int) > 4096) = true := by rw [decide_eq_true_eq]; omega
            have hn := HN.out
            rw [if_neg (by simp), if_pos h4] at hn
            subst hn
            clear HN h4
            go_wp2_with fail
            go_ret
            exact ⟨rfl, HB2.out⟩
          · have q3 : decide ((x.length : Int) > 4096) = false := by rw [decide_eq_false_iff_not]; omega
            have hn := HN.out
            rw [if_neg (by simp), if_neg h4] at hn
            have HN2 := Lib.hid hn
            clear HN h4 hn
            go_wp2_with fail
            have hlt := HLT.out
            go_roundw
            case rel => exact ⟨i + 1, by omega, by go_num, HN2, HB2⟩
            case measure => simp [intOf]; omega
      · obtain rfl : i = fs.length := by omega
        have q1 : decide ((fs.length : Int) < (fs.length : Int)) = false := by simp
        have q2 : decide (fs.length < fs.length) = false := by simp
        have hn := HI.out
        rw [List.drop_length] at hn
        have hn : 0 = RES := hn
        subst hn
        clear HI
        go_wp2_with fail
        go_ret
        exact ⟨rfl, HB1.out⟩

/-- The box of an event that was handed over. -/
def evBox (w : World) (z : Int) (v : Value) : World := w.alloc (.cells #[.int .i64 z, v] 43)
theorem box_below (w : World) (z : Int) (v : Value) : Below w.heap.size w (evBox w z v) := (Below.refl _ _).alloc (Nat.le_refl _) _
theorem box_size (w : World) (z : Int) (v : Value) : (evBox w z v).heap.size = w.heap.size + 1 := by unfold evBox; simp
theorem box_at (w : World) (z : Int) (v : Value) : (evBox w z v).cell? ⟨w.heap.size, 0, none⟩ = some (.int .i64 z) ∧ (evBox w z v).cell? ⟨w.heap.size, 1, none⟩ = some v := new_two w _ _ _
theorem box_in {w wr : World} {z : Int} {v : Value} (h : Below (evBox w z v).heap.size (evBox w z v) wr) : wr.cell? ⟨w.heap.size, 0, none⟩ = some (.int .i64 z) ∧ wr.cell? ⟨w.heap.size, 1, none⟩ = some v ∧ Below w.heap.size w wr :=
  ⟨(h.cell (p := ⟨w.heap.size, 0, none⟩) (by rw [box_size]; simp)).trans (box_at w z v).1, (h.cell (p := ⟨w.heap.size, 1, none⟩) (by rw [box_size]; simp)).trans (box_at w z v).2, (box_below w z v).trans (h.mono (by rw [box_size]; omega))⟩

set_option maxRecDepth 100000 in
set_option maxHeartbeats 2000000 in
theorem rcheck_any (z : Int) (v : Value) (fs : List Fld) (w : World) (hr : RAny fldC w v fs) : Calls Try.prog 48 #[.agg #[.int .i64 z, v]] w (IntLeft (checkE (z, fs)) w) := by
  obtain ⟨p, cap, rfl, hlc, hcm, _⟩ := hr.shape
  unfold maxLen at hcm
  by_cases h16 : 16 < fs.length
  · have t1 : decide ((fs.length : Int) > 16) = true := by rw [decide_eq_true_eq]; omega
    have e : checkE (z, fs) = 3 := by unfold checkE; rw [if_pos h16]
    rw [e]
    clear e hr h16
    have HB := Lib.hid (box_below w z (.slice p fs.length cap))
    go_enter Try.func48, Try.ntmps48
    go_wp2_with fail
    go_ret
    exact ⟨rfl, HB.out⟩
  · have t1 : decide ((fs.length : Int) > 16) = false := by rw [decide_eq_false_iff_not]; omega
    obtain ⟨RES, hRES⟩ : ∃ RES, checkE (z, fs) = RES := ⟨_, rfl⟩
    have h0 : checkF (fs.drop 0) = RES := by rw [← hRES]; unfold checkE; rw [if_neg h16]; rfl
    rw [hRES]
    have HB := Lib.hid (Below.refl (evBox w z (.slice p fs.length cap)).heap.size (evBox w z (.slice p fs.length cap)))
    have H0 := Lib.hid h0
    have HR := Lib.hid hr
    clear h0 hr hRES h16
    go_enter Try.func48, Try.ntmps48
    go_wp2_with fail
    go_loopw [3] (fun iv wr => ∃ i : Nat, i ≤ fs.length ∧ iv = .int .i64 i ∧ Hid (checkF (fs.drop i) = RES) ∧ Hid (Below (evBox w z (.slice p fs.length cap)).heap.size (evBox w z (.slice p fs.length cap)) wr)) (fun iv _ => fs.length - (intOf iv).toNat)
    case atStart => exact ⟨0, by omega, rfl, H0, HB⟩
    case round =>
      obtain ⟨i, hi, rfl, HI, HB1⟩ := hrel
      clear H0 HB
      obtain ⟨_, cb, hbw⟩ := box_in HB1.out
      by_cases hlt : i < fs.length
      · have q1 : decide ((i : Int) < (fs.length : Int)) = true := by rw [decide_eq_true_eq]; omega
        have q2 : decide (i < fs.length) = true := by rw [decide_eq_true_eq]; omega
        obtain ⟨b, off, rfl, hbl, _, c1, c2⟩ := fld_at (HR.out.below hbw) hlt
        have hnext := HI.out
        rw [checkF_next hlt] at hnext
        generalize fs[i].1 = n at *
        generalize fs[i].2 = x at *
        have HN := Lib.hid hnext
        have HLT := Lib.hid hlt
        have hk := rname_any n wr
        generalize nameL n = nb at *
        have HK := Lib.hid hk
        have hwr := HB1.out.size
        have hbw0 := hbw.size
        rw [box_size] at hwr
        clear hnext HI hk hlt hbw
        go_wp2_with fail
        refine HK.out.mono ?_
        rintro e w2 ⟨rfl, hb2⟩
        have cx : w2.cell? ⟨b, off + i * 2 + 1, none⟩ = some (.string ⟨x.toArray⟩) := (hb2.cell (p := ⟨b, off + i * 2 + 1, none⟩) hbl).trans c2
        have cb2 : w2.cell? ⟨w.heap.size, 1, none⟩ = some (.slice (some ⟨b, off, none⟩) fs.length cap) := (hb2.cell (p := ⟨w.heap.size, 1, none⟩) (show w.heap.size < wr.heap.size by omega)).trans cb
        have HB2 := Lib.hid (HB1.out.trans (hb2.mono HB1.out.size))
        clear hb2 HK c1 c2 cb hwr hbw0
        cases nb with
        | false =>
          have hn := HN.out
          rw [if_pos rfl] at hn
          subst hn
          clear HN
          go_wp2_with fail
          go_ret
          exact ⟨rfl, (box_in HB2.out).2.2⟩
        | true =>
          by_cases h4 : 4096 < x.length
          · have q3 : decide ((x.length : Int) > 4096) = true := by rw [decide_eq_true_eq]; omega
            have hn := HN.out
            rw [if_neg (by simp), if_pos h4] at hn
            subst hn
            clear HN h4
            go_wp2_with fail
            go_ret
            exact ⟨rfl, (box_in HB2.out).2.2⟩
          · have q3 : decide ((x.length : Int) > 4096) = false := by rw [decide_eq_false_iff_not]; omega
            have hn := HN.out
            rw [if_neg (by simp), if_neg h4] at hn
            have HN2 := Lib.hid hn
            clear HN h4 hn
            go_wp2_with fail
            have hlt := HLT.out
            go_roundw
            case rel => exact ⟨i + 1, by omega, by go_num, HN2, HB2⟩
            case measure => simp [intOf]; omega
      · obtain rfl : i = fs.length := by omega
        have q1 : decide ((fs.length : Int) < (fs.length : Int)) = false := by simp
        have q2 : decide (fs.length < fs.length) = false := by simp
        have hn := HI.out
        rw [List.drop_length] at hn
        have hn : 0 = RES := hn
        subst hn
        have HBW := Lib.hid hbw
        clear HI hbw
        go_wp2_with fail
        go_ret
        exact ⟨rfl, HBW.out⟩

/-! ### how great -/
theorem wrap_add (a b : Int) : wrap64 (wrap64 a + b) = wrap64 (a + b) := by unfold wrap64; omega
theorem wrap_add2 (a b : Int) : wrap64 (a + wrap64 b) = wrap64 (a + b) := by unfold wrap64; omega
def sizeW (fs : List Fld) : Int := wrap64 (16 + (sizeF fs : Int))
theorem sizeW_next {fs : List Fld} {k : Nat} (hk : k < fs.length) : wrap64 (sizeW (fs.take k) + ((fs[k].1.length : Int) + (fs[k].2.length : Int))) = sizeW (fs.take (k + 1)) := by
  unfold sizeW
  rw [wrap_add, sizeF_next hk]
  congr 1
  omega
theorem sizeW_small {fs : List Fld} (h : sizeF fs ≤ 1000000000000) : sizeW fs = (16 + sizeF fs : Nat) := by unfold sizeW wrap64; omega
end Go.Proofs.Ythgfaadlnffpcaa.EV
set_option linter.unusedVariables false
namespace Go.Proofs.Ythgfaadlnffpcaa.MM
open Go Go.RowKit

/-- Three cells. -/
def Three (w : World) (g : Nat) (t : TypeId) (a b c : Value) : Prop := w.heap[g]? = some (.cells #[a, b, c] t (0, 0))
section
variable {w w' : World} {g : Nat} {t : TypeId} {a b c : Value}
theorem Three.lt (h : Three w g t a b c) : g < w.heap.size := (Array.getElem?_eq_some_iff.1 h).1
theorem Three.c0 (h : Three w g t a b c) : w.cell? ⟨g, 0, none⟩ = some a := by rw [cell_of_row w g 0 _ _ _ h]; rfl
theorem Three.c1 (h : Three w g t a b c) : w.cell? ⟨g, 1, none⟩ = some b := by rw [cell_of_row w g 1 _ _ _ h]; rfl
theorem Three.c2 (h : Three w g t a b c) : w.cell? ⟨g, 2, none⟩ = some c := by rw [cell_of_row w g 2 _ _ _ h]; rfl
theorem Three.fr (h : Three w g t a b c) (i : Nat) : w.frozen? ⟨g, i, none⟩ = false := frozen_of_row w g i _ _ h
theorem Three.s0 (h : Three w g t a b c) (x : Value) : Three (w.setCell ⟨g, 0, none⟩ x) g t x b c := heap_setCell_same w g 0 _ _ x h
theorem Three.s1 (h : Three w g t a b c) (x : Value) : Three (w.setCell ⟨g, 1, none⟩ x) g t a x c := heap_setCell_same w g 1 _ _ x h
theorem Three.s2 (h : Three w g t a b c) (x : Value) : Three (w.setCell ⟨g, 2, none⟩ x) g t a b x := heap_setCell_same w g 2 _ _ x h
/-- The world behind a store of all three. -/
def set3 (w : World) (g : Nat) (x y z : Value) : World := ((w.setCell ⟨g, 0, none⟩ x).setCell ⟨g, 1, none⟩ y).setCell ⟨g, 2, none⟩ z
theorem Three.set (h : Three w g t a b c) (x y z : Value) : Three (set3 w g x y z) g t x y z := ((h.s0 x).s1 y).s2 z
theorem Three.keep {S : Nat → Prop} (h : Three w g t a b c) (hk : Kep S w w') (hS : S g) : Three w' g t a b c := (hk.block g h.lt hS).trans h
theorem Three.below {B : Nat} (h : Three w g t a b c) (hb : Below B w w') (hg : g < B) : Three w' g t a b c := (hb.block g hg).trans h
theorem three_new (w : World) (t : TypeId) (a b c : Value) : Three (w.alloc (.cells #[a, b, c] t)) w.heap.size t a b c := heap_alloc_new _ _
/-- What the walk asks of a block of three cells that is read. -/
theorem Three.cells (h : Three w g t a b c) : w.cell? ⟨g, 0, none⟩ = some a ∧ w.cell? ⟨g, 1, none⟩ = some b ∧ w.cell? ⟨g, 2, none⟩ = some c := ⟨h.c0, h.c1, h.c2⟩
/-- .. that is written, cell by cell. -/
theorem Three.all (h : Three w g t a b c) (x y : Value) :
    w.frozen? ⟨g, 0, none⟩ = false ∧ w.frozen? ⟨g, 1, none⟩ = false ∧ w.frozen? ⟨g, 2, none⟩ = false ∧
    ((w.setCell ⟨g, 0, none⟩ x).cell? ⟨g, 1, none⟩ = some b ∧ (w.setCell ⟨g, 0, none⟩ x).frozen? ⟨g, 1, none⟩ = false) ∧
    (((w.setCell ⟨g, 0, none⟩ x).setCell ⟨g, 1, none⟩ y).cell? ⟨g, 2, none⟩ = some c ∧ ((w.setCell ⟨g, 0, none⟩ x).setCell ⟨g, 1, none⟩ y).frozen? ⟨g, 2, none⟩ = false) :=
  ⟨h.fr 0, h.fr 1, h.fr 2, ⟨(h.s0 x).c1, (h.s0 x).fr 1⟩, ⟨((h.s0 x).s1 y).c2, ((h.s0 x).s1 y).fr 2⟩⟩
theorem kep_set3 {g : Nat} (x y z : Value) : Kep (fun b => b ≠ g) w (set3 w g x y z) :=
  ((kep_set (fun h => h rfl) x).trans (kep_set (fun h => h rfl) y)).trans (kep_set (fun h => h rfl) z)
end

section
variable {P : Program} {fn : Func} {t : TypeId} {ty : TypeDesc}
theorem results_three1 {p : Tmp} (h : fn.results = #[.cell p t]) (hu : P.underlying t = some ty) (hd : (match ty with | .struct _ | .array _ _ => true | _ => false) = true) (hi : (P.info? t).map (·.size) = some 3) (tmps : Array Value) (w : World) (g : Nat) (a b c : Value)
    (hp : tmps.getD p undef = .pointer (some ⟨g, 0, none⟩)) (hg : Three w g t a b c) : (results fn tmps).run P w = .ok (.agg #[a, b, c]) w := by
  have hp' : tmps[p]?.getD undef = .pointer (some ⟨g, 0, none⟩) := by simpa using hp
  have hl := run_loadVar_row (P := P) w g t t _ (0, 0) ty hg hu hd hi
  simp [results, h, hp', asAddr, hl]
theorem results_three2 {p u : Tmp} (h : fn.results = #[.cell p t, .tmp u]) (hu : P.underlying t = some ty) (hd : (match ty with | .struct _ | .array _ _ => true | _ => false) = true) (hi : (P.info? t).map (·.size) = some 3) (tmps : Array Value) (w : World) (g : Nat) (a b c : Value)
    (hp : tmps.getD p undef = .pointer (some ⟨g, 0, none⟩)) (hg : Three w g t a b c) : (results fn tmps).run P w = .ok (.tuple #[.agg #[a, b, c], tmps.getD u undef]) w := by
  have hp' : tmps[p]?.getD undef = .pointer (some ⟨g, 0, none⟩) := by simpa using hp
  have hl := run_loadVar_row (P := P) w g t t _ (0, 0) ty hg hu hd hi
  simp [results, h, hp', asAddr, hl]
theorem results_three3 {p u v : Tmp} (h : fn.results = #[.cell p t, .tmp u, .tmp v]) (hu : P.underlying t = some ty) (hd : (match ty with | .struct _ | .array _ _ => true | _ => false) = true) (hi : (P.info? t).map (·.size) = some 3) (tmps : Array Value) (w : World) (g : Nat) (a b c : Value)
    (hp : tmps.getD p undef = .pointer (some ⟨g, 0, none⟩)) (hg : Three w g t a b c) : (results fn tmps).run P w = .ok (.tuple #[.agg #[a, b, c], tmps.getD u undef, tmps.getD v undef]) w := by
  have hp' : tmps[p]?.getD undef = .pointer (some ⟨g, 0, none⟩) := by simpa using hp
  have hl := run_loadVar_row (P := P) w g t t _ (0, 0) ty hg hu hd hi
  simp [results, h, hp', asAddr, hl]
end
end Go.Proofs.Ythgfaadlnffpcaa.MM
set_option linter.unusedVariables false
namespace Go.Proofs.Ythgfaadlnffpcaa.EV
open Go Go.RowKit Go.Proofs.Ythgfaadlnffpcaa.MM Go.Proofs.Ythgfaadlnffpcaa.EM

def SomeBool (w : World) (e : Ending) (w' : World) : Prop := ∃ b, e = .returned (.bool b) ∧ Below w.heap.size w w'
set_option maxRecDepth 100000 in
set_option maxHeartbeats 2000000 in
theorem light_any (z : Int) (v : Value) (fs : List Fld) (w : World) (hr : RAny fldC w v fs) : Calls Try.prog 27 #[.agg #[.int .i64 z, v]] w (SomeBool w) := by
  obtain ⟨p, cap, rfl, hlc, hcm, _⟩ := hr.shape
  unfold maxLen at hcm
  have HB := Lib.hid (Below.refl (evBox w z (.slice p fs.length cap)).heap.size (evBox w z (.slice p fs.length cap)))
  have HR := Lib.hid hr
  clear hr
  go_enter Try.func27, Try.ntmps27
  go_wp2_with fail
  go_loopw [3, 4] (fun sv iv wr => ∃ (i n : Nat), i ≤ fs.length ∧ n ≤ 3000 ∧ iv = .int .i64 i ∧ sv = .int .i64 n ∧ Hid (Below (evBox w z (.slice p fs.length cap)).heap.size (evBox w z (.slice p fs.length cap)) wr)) (fun _ iv _ => fs.length - (intOf iv).toNat)
  case atStart => exact ⟨0, 0, by omega, by omega, rfl, rfl, HB⟩
  case round =>
    obtain ⟨i, n, hi, hn, rfl, rfl, HB1⟩ := hrel
    clear HB
    obtain ⟨_, cb, hbw⟩ := box_in HB1.out
    have HBW := Lib.hid hbw
    by_cases hlt : i < fs.length
    · have q1 : decide ((i : Int) < (fs.length : Int)) = true := by rw [decide_eq_true_eq]; omega
      have q2 : decide (i < fs.length) = true := by rw [decide_eq_true_eq]; omega
      have q3 : (i : Int) < cap := by omega
      have q4 : (i : Int) < fs.length := by omega
      obtain ⟨b, off, rfl, hbl, _, c1, c2⟩ := fld_at (HR.out.below hbw) hlt
      generalize fs[i].1 = nm at *
      generalize fs[i].2 = x at *
      obtain ⟨m1, hm1⟩ : ∃ m : Nat, min 1000 (nm.length : Int) = (m : Int) := ⟨min 1000 nm.length, by omega⟩
      obtain ⟨m2, hm2⟩ : ∃ m : Nat, min 1000 (x.length : Int) = (m : Int) := ⟨min 1000 x.length, by omega⟩
      have hb1 : m1 ≤ 1000 := by omega
      have hb2 : m2 ≤ 1000 := by omega
      have HLT := Lib.hid hlt
      by_cases h20 : i < 20
      · have q5 : decide ((i : Int) < 20) = true := by rw [decide_eq_true_eq]; omega
        have q6 : decide (i < 20) = true := by rw [decide_eq_true_eq]; omega
        by_cases h1k : n < 1000
        · have q7 : decide ((n : Int) < 1000) = true := by rw [decide_eq_true_eq]; omega
          have q8 : decide (n < 1000) = true := by rw [decide_eq_true_eq]; omega
          have HM1 := Lib.hid hm1
          have HM2 := Lib.hid hm2
          clear hlt hbw hm1 hm2
          go_wp2_with fail
          go_quiet (fail)
          go_wp2_with fail
          have hlt := HLT.out
          go_roundw
          case rel => exact ⟨i + 1, n + m1 + m2, by omega, by omega, by go_num, (by rw [HM1.out, HM2.out]; simp), Lib.hid (MM.below_drewN HB1.out _)⟩
          case measure => simp [intOf]; omega
        · have q7 : decide ((n : Int) < 1000) = false := by rw [decide_eq_false_iff_not]; omega
          have q8 : decide (n < 1000) = false := by rw [decide_eq_false_iff_not]; omega
          clear hlt hbw hm1 hm2 h1k
          go_wp2_with fail
          go_ret
          exact ⟨_, rfl, HBW.out⟩
      · have q5 : decide ((i : Int) < 20) = false := by rw [decide_eq_false_iff_not]; omega
        have q6 : decide (i < 20) = false := by rw [decide_eq_false_iff_not]; omega
        obtain ⟨bb, hbb⟩ : ∃ bb, decide ((n : Int) < 1000) = bb := ⟨_, rfl⟩
        clear hlt hbw hm1 hm2 h20
        go_wp2_with fail
        go_ret
        exact ⟨_, rfl, HBW.out⟩
    · obtain rfl : i = fs.length := by omega
      have q1 : decide ((fs.length : Int) < (fs.length : Int)) = false := by simp
      have q2 : decide (fs.length < fs.length) = false := by simp
      clear hbw hlt
      go_wp2_with fail
      go_ret
      exact ⟨_, rfl, HBW.out⟩
end Go.Proofs.Ythgfaadlnffpcaa.EV
