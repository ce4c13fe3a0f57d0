/-
  The reference's without, with, call: what the plain lists say. Condition: few files.
-/
import Derived.Test.YtljfpolcgegkpaaDskRef1
set_option linter.unusedVariables false
namespace Go.Proofs.Ytljfpolcgegkpaa.DK
open Go.RowKit Go.Proofs.Ytljfpolcgegkpaa.MM
variable {XB : Nat → Prop}

/-- A disk that is handed back; memory that was there is as it was. -/
def DiskLeft (XB : Nat → Prop) (A : Nat) (d : DiskD) (w : World) (e : Ending) (w' : World) : Prop := ∃ L, e = .returned (diskV L d) ∧ OwnF XB A w.heap.size w' L d.L ∧ Below w.heap.size w w'
theorem without_drop {l : List FileD} {n : List UInt8} {i : Nat} {f : FileD} (h : l[i]? = some f) : withoutL (l.drop i) n = if f.name = n then withoutL (l.drop (i + 1)) n else f :: withoutL (l.drop (i + 1)) n := by
  obtain ⟨h1, e1⟩ := List.getElem?_eq_some_iff.1 h
  rw [List.drop_eq_getElem_cons h1, e1]
  unfold withoutL
  rw [List.filter_cons]
  by_cases e : f.name = n <;> simp [e]
set_option maxRecDepth 100000 in
set_option maxHeartbeats 2000000 in
theorem without_any (B : Nat) (v : Value) (d : DiskD) (n : List UInt8) (w : World) (hd : RDisk XB B w v d) (hB : B ≤ w.heap.size) (hl : d.L.length ≤ 1000000) : Calls Try.prog 57 #[v, .string ⟨n.toArray⟩] w (DiskLeft XB B { d with L := withoutL d.L n } w) := by
  obtain ⟨L, rfl, hL⟩ := hd
  obtain ⟨p, cap, rfl, hlc, hcm⟩ := hL.shape
  unfold maxLen at hcm
  obtain ⟨RES, hRES⟩ : ∃ RES, withoutL d.L n = RES := ⟨_, rfl⟩
  have H0 : Hid ([] ++ withoutL (d.L.drop 0) n = RES) := Lib.hid hRES
  have hrl : RES.length ≤ d.L.length := by rw [← hRES]; exact List.length_filter_le _ _
  rw [hRES]
  clear hRES
  unfold diskV
  go_enter Try.func57, Try.ntmps57
  go_wp2_with fail
  obtain ⟨W0, hW0⟩ : ∃ W, ((w.alloc (.cells #[.slice p d.L.length cap, .int .i64 d.quota, .int .i64 d.armed, .bool d.stopped] 29)).alloc (.cells #[.slice none 0 0, .int .i64 0, .int .i64 0, .bool false] 29)) = W := ⟨_, rfl⟩
  rw [hW0]
  have hs0 : W0.heap.size = w.heap.size + 2 := by rw [← hW0]; simp
  have hb0 : Below w.heap.size w W0 := by rw [← hW0]; exact ((Below.refl _ _).alloc (Nat.le_refl _) _).alloc (by simp) _
  have hx0 : BoxAt W0 w.heap.size (.slice p d.L.length cap) d := by rw [← hW0]; exact (box_new w _ d).below ((Below.refl _ _).alloc (Nat.le_refl _) _) (by simp)
  have hy0 : BoxAt W0 (w.heap.size + 1) (.slice none 0 0) ⟨[], 0, 0, false⟩ := by
    rw [← hW0]
    have := box_new (w.alloc (.cells #[.slice p d.L.length cap, .int .i64 d.quota, .int .i64 d.armed, .bool d.stopped] 29)) (.slice none 0 0) ⟨[], 0, 0, false⟩
    rw [show (w.alloc (.cells #[.slice p d.L.length cap, .int .i64 d.quota, .int .i64 d.armed, .bool d.stopped] 29)).heap.size = w.heap.size + 1 by simp] at this
    exact this
  have HL0 := Lib.hid (hL.below (hb0.mono hB))
  have HX0 := Lib.hid hx0
  have HY0 := Lib.hid hy0
  have HB0 := Lib.hid hb0
  clear hW0 hL hx0 hy0 hb0
  go_loopw [5, 6] (fun lv iv wr => ∃ (i : Nat) (X : List FileD), i ≤ d.L.length ∧ X.length ≤ i ∧ iv = .int .i64 i ∧ Hid (X ++ withoutL (d.L.drop i) n = RES) ∧ Hid (OwnF XB B (w.heap.size + 2) wr lv X) ∧ Hid (Below (w.heap.size + 2) W0 wr)) (fun _ iv _ => d.L.length - (intOf iv).toNat)
  case atStart => exact ⟨0, [], by omega, by simp, rfl, H0, Lib.hid (OwnF.nil_ _ _ _), Lib.hid (Below.refl _ _)⟩
  case round =>
    obtain ⟨i, X, hi, hXi, rfl, HI, HO, HB⟩ := hrel
    clear H0
    have hbx := HX0.out.below HB.out (by omega)
    have c0 := hbx.files
    obtain ⟨px, capx, rfl⟩ := HO.out.shape
    have hsz := HB.out.size
    by_cases hlt : i < d.L.length
    · obtain ⟨f, hf⟩ : ∃ f, d.L[i]? = some f := ⟨d.L[i], List.getElem?_eq_getElem hlt⟩
      obtain ⟨blk, off, vb, rfl, hblk, hvb, x0, x1, x2⟩ := (HL0.out.below (HB.out.mono (by omega))).at_ hf
      obtain ⟨pb, capb, rfl, _, _⟩ := hvb.shape
      unfold strV at x0
      have hn := HI.out
      rw [without_drop hf] at hn
      have q1 : decide ((i : Int) < (d.L.length : Int)) = true := by rw [decide_eq_true_eq]; omega
      have i1 : (i : Int) < (d.L.length : Int) := by omega
      have hse := str_eq f.name n
      have HVB := Lib.hid hvb
      have HLT := Lib.hid hlt
      by_cases hfn : f.name = n
      · rw [if_pos hfn] at hn
        rw [decide_eq_true hfn] at hse
        have hse2 : (((⟨f.name.toArray⟩ : ByteArray).toList) != ((⟨n.toArray⟩ : ByteArray).toList)) = false := by rw [bne, hse]; rfl
        have HN := Lib.hid hn
        clear hn hfn hf HI hlt hvb hbx
        generalize (⟨f.name.toArray⟩ : ByteArray) = S1 at *
        generalize (⟨n.toArray⟩ : ByteArray) = S2 at *
        go_wp2_with fail
        have hlt := HLT.out
        go_roundw
        case rel => exact ⟨i + 1, X, by omega, by omega, by go_num, HN, HO, HB⟩
        case measure => simp [intOf]; omega
      · rw [if_neg hfn] at hn
        rw [decide_eq_false hfn] at hse
        have hse2 : (((⟨f.name.toArray⟩ : ByteArray).toList) != ((⟨n.toArray⟩ : ByteArray).toList)) = true := by rw [bne, hse]; rfl
        rw [show X ++ f :: withoutL (d.L.drop (i + 1)) n = (X ++ [f]) ++ withoutL (d.L.drop (i + 1)) n by simp] at hn
        have HN := Lib.hid hn
        obtain ⟨S1, hS1⟩ : ∃ S : ByteArray, (⟨f.name.toArray⟩ : ByteArray) = S := ⟨_, rfl⟩
        rw [hS1] at hse hse2 x0
        have HS1 := Lib.hid hS1
        have hba : ∀ o, Below wr.heap.size wr (wr.alloc o) := fun o => (Below.refl _ _).alloc (Nat.le_refl _) _
        have HOa := Lib.hid (fun o => HO.out.keep (hba o) (by omega))
        have hVa := fun o => HVB.out.below ((hba o).mono (show B ≤ wr.heap.size by omega))
        have HVa := Lib.hid hVa
        have HBA := Lib.hid hba
        have hsa : ∀ o, w.heap.size + 2 ≤ (wr.alloc o).heap.size := fun o => by simp; omega
        have HG := Lib.hid (show ∀ o t, o = Obj.cells #[.string S1, .slice pb f.b.length capb, .int .i64 (f.sure : Int)] t (0, 0) → ∃ t fr, (wr.alloc o).heap[wr.heap.size]? = some (.cells #[strV f.name, .slice pb f.b.length capb, .int .i64 (f.sure : Int)] t fr) from fun o t ho => ⟨t, (0, 0), by rw [ho, strV, HS1.out]; exact heap_alloc_new _ _⟩)
        have hXl : (X ++ [f]).length = X.length + 1 := by simp
        obtain ⟨Y, hY⟩ : ∃ Y, X ++ [f] = Y := ⟨_, rfl⟩
        rw [hY] at hXl HN
        have HY := Lib.hid hY
        clear hn hfn hf HI hlt hvb hbx hS1 hba hY hVa
        generalize (⟨n.toArray⟩ : ByteArray) = S2 at *
        go_wp2_with (at_builtin; go_loud (refine wpList_append_file rfl _ _ rfl B (w.heap.size + 2) _ X rfl (HOa.out _) f (.slice pb f.b.length capb) _ rfl wr.heap.size rfl (HG.out _ _ rfl) (HVa.out _) (by omega) (by omega) (hsa _) ?_))
        intro v3 w3 hown3 hb3
        rw [HY.out] at hown3
        have HO3 := Lib.hid hown3
        have HB3 := Lib.hid (HB.out.trans (((HBA.out _).mono (by omega)).trans hb3))
        clear hown3 hb3
        go_wp2_with fail
        have hlt := HLT.out
        go_roundw
        case rel => exact ⟨i + 1, Y, by omega, by omega, by go_num, HN, HO3, HB3⟩
        case measure => simp [intOf]; omega
    · obtain rfl : i = d.L.length := by omega
      have hn := HI.out
      rw [List.drop_length] at hn
      obtain rfl : X = RES := by simpa [withoutL] using hn
      have q1 : decide ((d.L.length : Int) < (d.L.length : Int)) = false := by simp
      have c1 := hbx.quota
      have c2 := hbx.armed
      have c3 := hbx.stopped
      have f0 := fun k => hbx.free k
      have hby := HY0.out.below HB.out (by omega)
      have y0 := hby.files
      have y1 := hby.quota
      have y2 := hby.armed
      have y3 := hby.stopped
      have f1 := fun k => hby.free k
      have HBY := Lib.hid hby
      clear hn HI hlt hbx hby
      have hF := ((((HO.out.set (i := 0) (u := .slice px X.length capx) hB (by omega : w.heap.size < _)).set (g := w.heap.size + 1) (i := 0) (u := .slice px X.length capx) (by omega) (by omega)).set (g := w.heap.size + 1) (i := 1) (u := .int .i64 d.quota) (by omega) (by omega)).set (g := w.heap.size + 1) (i := 2) (u := .int .i64 d.armed) (by omega) (by omega)).set (g := w.heap.size + 1) (i := 3) (u := .bool d.stopped) (by omega) (by omega)
      have HF := Lib.hid hF
      have HBF := Lib.hid (box_four (HBY.out.other (k := w.heap.size) (i := 0) (u := .slice px X.length capx) (by omega)) (.slice px X.length capx) d)
      have HBE := Lib.hid (show Below w.heap.size w _ from (((((HB0.out.trans (HB.out.mono (by omega))).setCell (p := ⟨w.heap.size, 0, none⟩) (Nat.le_refl _) (.slice px X.length capx)).setCell (p := ⟨w.heap.size + 1, 0, none⟩) (Nat.le_succ _) (.slice px X.length capx)).setCell (p := ⟨w.heap.size + 1, 1, none⟩) (Nat.le_succ _) (.int .i64 d.quota)).setCell (p := ⟨w.heap.size + 1, 2, none⟩) (Nat.le_succ _) (.int .i64 d.armed)).setCell (p := ⟨w.heap.size + 1, 3, none⟩) (Nat.le_succ _) (.bool d.stopped))
      clear hF
      go_wp2_with fail
      refine bodyPost_ret (v := diskV (.slice px X.length capx) { d with L := X }) (results_cell_row rfl _ _ (w.heap.size + 1) 29 _ (0, 0) _ rfl HBF.out Try.underlying29 rfl infoDisk) rfl ⟨_, rfl, HF.out.weaken (by omega), HBE.out⟩

/-! ### call -/
theorem results_row_tmp {fn : Func} {p u : Tmp} (h : fn.results = #[.cell p 29, .tmp u]) (tmps : Array Value) (w : World) (g : Nat) (t : TypeId) (cs : Array Value) (fr : Nat × Nat)
    (hp : tmps.getD p undef = .pointer (some ⟨g, 0, none⟩)) (hg : w.heap[g]? = some (.cells cs t fr)) (hi : (Try.prog.info? 29).map (·.size) = some cs.size) :
    (results fn tmps).run Try.prog w = .ok (.tuple #[.agg cs, tmps.getD u undef]) w := by
  have hp' : tmps[p]?.getD undef = .pointer (some ⟨g, 0, none⟩) := by simpa using hp
  simp [results, h, hp', asAddr, run_loadVar_row w g t 29 cs fr _ hg Try.underlying29 rfl hi]
def CallLeft (L : Value) (r : DiskD × Bool) (w : World) (e : Ending) (w' : World) : Prop := e = .returned (.tuple #[diskV L r.1, .bool r.2]) ∧ Below w.heap.size w w'
theorem FilesIn.set {B g i : Nat} {w : World} {v u : Value} {fs : List FileD} (h : FilesIn XB B w v fs) (hg : B ≤ g) : FilesIn XB B (w.setCell ⟨g, i, none⟩ u) v fs := h.below ((Below.refl B w).setCell (p := ⟨g, i, none⟩) hg u)
theorem two_boxes {B : Nat} {w : World} {L : Value} {d : DiskD} (hB : B ≤ w.heap.size) (h : FilesIn XB B w L d.L) (o : Obj) :
    BoxAt ((w.alloc o).alloc (.cells #[L, .int .i64 d.quota, .int .i64 d.armed, .bool d.stopped] 29)) (w.heap.size + 1) L d ∧ RDisk XB ((w.alloc o).alloc (.cells #[L, .int .i64 d.quota, .int .i64 d.armed, .bool d.stopped] 29)).heap.size ((w.alloc o).alloc (.cells #[L, .int .i64 d.quota, .int .i64 d.armed, .bool d.stopped] 29)) (diskV L d) d ∧
      Below w.heap.size w ((w.alloc o).alloc (.cells #[L, .int .i64 d.quota, .int .i64 d.armed, .bool d.stopped] 29)) := by
  have hb : Below w.heap.size w ((w.alloc o).alloc (.cells #[L, .int .i64 d.quota, .int .i64 d.armed, .bool d.stopped] 29)) := ((Below.refl _ _).alloc (Nat.le_refl _) _).alloc (by simp) _
  refine ⟨?_, ⟨L, rfl, (h.below (hb.mono hB)).mono (Nat.le_trans hB hb.size)⟩, hb⟩
  have := box_new (w.alloc o) L d
  rw [show (w.alloc o).heap.size = w.heap.size + 1 by simp] at this
  exact this
set_option maxRecDepth 100000 in
set_option maxHeartbeats 2000000 in
theorem call_any (B : Nat) (L : Value) (d : DiskD) (w : World) (hL : FilesIn XB B w L d.L) (hB : B ≤ w.heap.size) (h0 : 0 ≤ d.armed) (h1 : d.armed ≤ 9223372036854775807) : Calls Try.prog 55 #[diskV L d] w (CallLeft L (callD d) w) := by
  obtain ⟨p, cap, rfl, hlc, hcm⟩ := hL.shape
  have HT := Lib.hid (fun (d' : DiskD) (e : d'.L = d.L) o => two_boxes (d := d') (o := o) hB (by rw [e]; exact hL))
  clear hL
  unfold diskV
  by_cases ha : d.armed = 0
  · have hcd : callD d = (d, false) := by unfold callD; rw [if_pos ha]
    rw [hcd]
    have t1 : (d.armed == 0) = true := by simp [ha]
    have HE := Lib.hid (fun o => HT.out d rfl o)
    obtain ⟨L', q, ar, st⟩ := d
    simp only at *
    clear ha hcd HT
    go_enter Try.func55, Try.ntmps55
    go_wp2_with fail
    obtain ⟨e1, e2, e3⟩ := HE.out (.cells #[.slice p L'.length cap, .int .i64 q, .int .i64 ar, .bool st] 29)
    refine bodyPost_ret (results_row_tmp rfl _ _ (w.heap.size + 1) 29 _ (0, 0) rfl e1 infoDisk) rfl ⟨rfl, e3⟩
  · have hcd : callD d = ({ d with armed := d.armed - 1, stopped := d.stopped || decide (d.armed - 1 = 0) }, d.stopped || decide (d.armed - 1 = 0)) := by unfold callD; rw [if_neg ha]
    rw [hcd]
    have t1 : (d.armed == 0) = false := by rw [beq_eq_false_iff_ne]; exact ha
    have hw : IntKind.i64.wrap (d.armed - 1) = d.armed - 1 := by rw [IntKind.wrap_i64]; omega
    by_cases h2 : d.armed - 1 = 0
    · have t2 : (d.armed - 1 == 0) = true := by rw [beq_iff_eq]; exact h2
      rw [decide_eq_true h2, Bool.or_true]
      have HE := Lib.hid (fun o => HT.out { d with armed := d.armed - 1, stopped := true } rfl o)
      obtain ⟨L', q, ar, st⟩ := d
      simp only at *
      clear ha hcd HT h2
      go_enter Try.func55, Try.ntmps55
      go_wp2_with fail
      go_region
      all_goals (
        go_wp2_with fail
        obtain ⟨e1, e2, e3⟩ := HE.out (.cells #[.slice p L'.length cap, .int .i64 q, .int .i64 (ar - 1), .bool true] 29)
        have e1' := e1
        refine bodyPost_ret (results_row_tmp rfl _ (World.drew _) (w.heap.size + 1) 29 _ (0, 0) rfl e1' infoDisk) rfl ⟨rfl, e3.drew⟩)
    · have t2 : (d.armed - 1 == 0) = false := by rw [beq_eq_false_iff_ne]; exact h2
      rw [decide_eq_false h2, Bool.or_false]
      have HE := Lib.hid (fun o => HT.out { d with armed := d.armed - 1 } rfl o)
      obtain ⟨L', q, ar, st⟩ := d
      simp only at *
      clear ha hcd HT h2
      go_enter Try.func55, Try.ntmps55
      go_wp2_with fail
      go_region
      all_goals (
        go_wp2_with fail
        obtain ⟨e1, e2, e3⟩ := HE.out (.cells #[.slice p L'.length cap, .int .i64 q, .int .i64 (ar - 1), .bool st] 29)
        have e1' := e1
        refine bodyPost_ret (results_row_tmp rfl _ (World.drew _) (w.heap.size + 1) 29 _ (0, 0) rfl e1' infoDisk) rfl ⟨rfl, e3.drew⟩)
end Go.Proofs.Ytljfpolcgegkpaa.DK
