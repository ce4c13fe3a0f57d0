/-
  The reference's with: what the plain lists say. Condition: few files.
-/
import Derived.Test.YtljfpolcgegkpaaDskRef2
set_option linter.unusedVariables false
namespace Go.Proofs.Ytljfpolcgegkpaa.DK
open Go.RowKit Go.Proofs.Ytljfpolcgegkpaa.MM
variable {XB : Nat → Prop}

def fileV (f : FileD) (vb : Value) : Value := .agg #[strV f.name, vb, .int .i64 (f.sure : Int)]
/-- What is put yet: where the file has been put, the rest; else the rest with it. -/
def restL (put : Bool) (f : FileD) (l : List FileD) : List FileD := if put then l else insL f l
theorem rest_put {f g : FileD} {l : List FileD} {i : Nat} (h : l[i]? = some g) : restL true f (l.drop i) = g :: restL true f (l.drop (i + 1)) := by
  obtain ⟨h1, e1⟩ := List.getElem?_eq_some_iff.1 h
  rw [List.drop_eq_getElem_cons h1, e1]
  rfl
theorem rest_here {f g : FileD} {l : List FileD} {i : Nat} (h : l[i]? = some g) (hl : lessL f.name g.name = true) : restL false f (l.drop i) = f :: g :: restL true f (l.drop (i + 1)) := by
  obtain ⟨h1, e1⟩ := List.getElem?_eq_some_iff.1 h
  rw [List.drop_eq_getElem_cons h1, e1]
  show insL f (g :: _) = _
  rw [insL, if_pos hl]
  rfl
theorem rest_later {f g : FileD} {l : List FileD} {i : Nat} (h : l[i]? = some g) (hl : lessL f.name g.name = false) : restL false f (l.drop i) = g :: restL false f (l.drop (i + 1)) := by
  obtain ⟨h1, e1⟩ := List.getElem?_eq_some_iff.1 h
  rw [List.drop_eq_getElem_cons h1, e1]
  show insL f (g :: _) = _
  rw [insL, if_neg (by rw [hl]; exact Bool.false_ne_true)]
  rfl
set_option maxRecDepth 100000 in
set_option maxHeartbeats 4000000 in
theorem with_any (B : Nat) (v vb : Value) (d : DiskD) (f : FileD) (w : World) (hd : RDisk XB B w v d) (hf : BX XB B w vb f.b) (hB : B ≤ w.heap.size) (hl : d.L.length ≤ 1000000) (hn : f.name.length ≤ 1000000000) (hnl : ∀ g ∈ d.L, g.name.length ≤ 1000000000) :
    Calls Try.prog 56 #[v, fileV f vb] w (DiskLeft XB B { d with L := withL d.L f } w) := by
  obtain ⟨L, rfl, hL⟩ := hd
  obtain ⟨p, cap, rfl, hlc, hcm⟩ := hL.shape
  obtain ⟨pf, capf, rfl, _, _⟩ := hf.shape
  unfold maxLen at hcm
  unfold diskV fileV strV
  have HW := Lib.hid (fun W (h : Below w.heap.size w W) => without_any B _ d f.name W ⟨_, rfl, hL.below (h.mono hB)⟩ (Nat.le_trans hB h.size) hl)
  have HF := Lib.hid hf
  have HL := Lib.hid hL
  obtain ⟨fs1, hfs1⟩ : ∃ fs, withoutL d.L f.name = fs := ⟨_, rfl⟩
  have hfl1 : fs1.length ≤ d.L.length := by rw [← hfs1]; exact List.length_filter_le _ _
  have hfn1 : ∀ g ∈ fs1, g.name.length ≤ 1000000000 := fun g hg => by rw [← hfs1] at hg; exact hnl g (List.mem_filter.1 hg).1
  obtain ⟨RES, hRES⟩ : ∃ RES, withL d.L f = RES := ⟨_, rfl⟩
  have H0 : Hid ([] ++ restL false f (fs1.drop 0) = RES) := Lib.hid (by rw [← hRES, ← hfs1]; rfl)
  have hrl : RES.length ≤ fs1.length + 1 := by
    rw [← hRES]
    have : ∀ l : List FileD, (insL f l).length ≤ l.length + 1 := fun l => by
      induction l with
      | nil => simp [insL]
      | cons x l ih => unfold insL; split <;> simp <;> omega
    unfold withL
    rw [hfs1]
    exact this fs1
  rw [hRES]
  simp only [hfs1] at HW
  clear hf hL hRES hfs1
  go_enter Try.func56, Try.ntmps56
  go_wp2_with fail
  obtain ⟨Wb, hWb⟩ : ∃ W, (((w.alloc (.cells #[.slice p d.L.length cap, .int .i64 d.quota, .int .i64 d.armed, .bool d.stopped] 29)).alloc (.cells #[.string ⟨f.name.toArray⟩, .slice pf f.b.length capf, .int .i64 (f.sure : Int)] 48)).alloc (.cells #[.slice none 0 0, .int .i64 0, .int .i64 0, .bool false] 29)) = W := ⟨_, rfl⟩
  rw [hWb]
  have hsb : Wb.heap.size = w.heap.size + 3 := by rw [← hWb]; simp
  have hb0 : Below w.heap.size w Wb := by rw [← hWb]; exact (((Below.refl _ _).alloc (Nat.le_refl _) _).alloc (by simp) _).alloc (by simp; omega) _
  have hx0 : BoxAt Wb w.heap.size (.slice p d.L.length cap) d := by
    rw [← hWb]
    exact ((box_new w _ d).below ((Below.refl _ _).alloc (Nat.le_refl _) _) (by simp)).below ((Below.refl _ _).alloc (Nat.le_refl _) _) (by simp; omega)
  have hf0 : Wb.heap[w.heap.size + 1]? = some (.cells #[.string ⟨f.name.toArray⟩, .slice pf f.b.length capf, .int .i64 (f.sure : Int)] 48 (0, 0)) := by
    rw [← hWb, Below.heap_alloc _ _ _ (by simp)]
    have := heap_alloc_new (w.alloc (.cells #[.slice p d.L.length cap, .int .i64 d.quota, .int .i64 d.armed, .bool d.stopped] 29)) (.cells #[.string ⟨f.name.toArray⟩, .slice pf f.b.length capf, .int .i64 (f.sure : Int)] 48)
    rw [show (w.alloc (.cells #[.slice p d.L.length cap, .int .i64 d.quota, .int .i64 d.armed, .bool d.stopped] 29)).heap.size = w.heap.size + 1 by simp] at this
    exact this
  have hy0 : BoxAt Wb (w.heap.size + 2) (.slice none 0 0) ⟨[], 0, 0, false⟩ := by
    rw [← hWb]
    have := box_new ((w.alloc (.cells #[.slice p d.L.length cap, .int .i64 d.quota, .int .i64 d.armed, .bool d.stopped] 29)).alloc (.cells #[.string ⟨f.name.toArray⟩, .slice pf f.b.length capf, .int .i64 (f.sure : Int)] 48)) (.slice none 0 0) ⟨[], 0, 0, false⟩
    rw [show ((w.alloc (.cells #[.slice p d.L.length cap, .int .i64 d.quota, .int .i64 d.armed, .bool d.stopped] 29)).alloc (.cells #[.string ⟨f.name.toArray⟩, .slice pf f.b.length capf, .int .i64 (f.sure : Int)] 48)).heap.size = w.heap.size + 2 by simp] at this
    exact this
  have HB0 := Lib.hid hb0
  have HK := Lib.hid (HW.out Wb hb0)
  clear hWb HW
  refine HK.out.mono ?_
  rintro e w1 ⟨L1, rfl, hO1, hb1⟩
  simp only at hO1
  unfold diskV
  obtain ⟨a1, cap1, rfl⟩ := hO1.shape
  have hx1 := hx0.below hb1 (by omega)
  have hy1 := hy0.below hb1 (by omega)
  have hf1 : w1.heap[w.heap.size + 1]? = _ := (hb1.block _ (by omega)).trans hf0
  have c0 := hx1.files
  have c1 := hx1.quota
  have c2 := hx1.armed
  have c3 := hx1.stopped
  have fr0 := fun k => hx1.free k
  have hsz1 := hb1.size
  have HX1 := Lib.hid (box_four hx1 (.slice a1 fs1.length cap1) { d with L := fs1 })
  have HY1 := Lib.hid ((((hy1.other (k := w.heap.size) (i := 0) (u := .slice a1 fs1.length cap1) (by omega)).other (k := w.heap.size) (i := 1) (u := .int .i64 d.quota) (by omega)).other (k := w.heap.size) (i := 2) (u := .int .i64 d.armed) (by omega)).other (k := w.heap.size) (i := 3) (u := .bool d.stopped) (by omega))
  have HO1 := Lib.hid ((((hO1.set (i := 0) (u := .slice a1 fs1.length cap1) (g := w.heap.size) hB (by omega)).set (i := 1) (u := .int .i64 d.quota) (g := w.heap.size) hB (by omega)).set (i := 2) (u := .int .i64 d.armed) (g := w.heap.size) hB (by omega)).set (i := 3) (u := .bool d.stopped) (g := w.heap.size) hB (by omega))
  have HFB := Lib.hid (show ((((w1.setCell ⟨w.heap.size, 0, none⟩ (.slice a1 fs1.length cap1)).setCell ⟨w.heap.size, 1, none⟩ (.int .i64 d.quota)).setCell ⟨w.heap.size, 2, none⟩ (.int .i64 d.armed)).setCell ⟨w.heap.size, 3, none⟩ (.bool d.stopped)).heap[w.heap.size + 1]? = some (.cells #[.string ⟨f.name.toArray⟩, .slice pf f.b.length capf, .int .i64 (f.sure : Int)] 48 (0, 0)) by
    rw [heap_setCell_other _ ⟨w.heap.size, 3, none⟩ _ _ (by show w.heap.size + 1 ≠ w.heap.size; omega), heap_setCell_other _ ⟨w.heap.size, 2, none⟩ _ _ (by show w.heap.size + 1 ≠ w.heap.size; omega), heap_setCell_other _ ⟨w.heap.size, 1, none⟩ _ _ (by show w.heap.size + 1 ≠ w.heap.size; omega), heap_setCell_other _ ⟨w.heap.size, 0, none⟩ _ _ (by show w.heap.size + 1 ≠ w.heap.size; omega)]
    exact hf1)
  have HB1 := Lib.hid (show Below w.heap.size w ((((w1.setCell ⟨w.heap.size, 0, none⟩ (.slice a1 fs1.length cap1)).setCell ⟨w.heap.size, 1, none⟩ (.int .i64 d.quota)).setCell ⟨w.heap.size, 2, none⟩ (.int .i64 d.armed)).setCell ⟨w.heap.size, 3, none⟩ (.bool d.stopped)) from
    ((((hb0.trans (hb1.mono (by omega))).setCell (p := ⟨w.heap.size, 0, none⟩) (Nat.le_refl _) _).setCell (p := ⟨w.heap.size, 1, none⟩) (Nat.le_refl _) _).setCell (p := ⟨w.heap.size, 2, none⟩) (Nat.le_refl _) _).setCell (p := ⟨w.heap.size, 3, none⟩) (Nat.le_refl _) _)
  clear hx0 hf0 hy0 hx1 hy1 hf1 hO1 hb0 hb1 HB0 HK HL
  go_wp2_with fail
  obtain ⟨W0, hW0⟩ : ∃ W, ((((w1.setCell ⟨w.heap.size, 0, none⟩ (.slice a1 fs1.length cap1)).setCell ⟨w.heap.size, 1, none⟩ (.int .i64 d.quota)).setCell ⟨w.heap.size, 2, none⟩ (.int .i64 d.armed)).setCell ⟨w.heap.size, 3, none⟩ (.bool d.stopped)) = W := ⟨_, rfl⟩
  rw [hW0] at HX1 HY1 HO1 HFB HB1 ⊢
  have hs0 : w.heap.size + 3 ≤ W0.heap.size := by rw [← hW0]; simp; omega
  clear hW0 c0 c1 c2 c3 fr0
  have HFV := Lib.hid (HF.out.below (HB1.out.mono hB))
  go_loopw [5, 6, 7] (fun lv pv iv wr => ∃ (i : Nat) (put : Bool) (X : List FileD), i ≤ fs1.length ∧ X.length ≤ i + put.toNat ∧ pv = .bool put ∧ iv = .int .i64 i ∧ Hid (X ++ restL put f (fs1.drop i) = RES) ∧ Hid (OwnF XB B W0.heap.size wr lv X) ∧ Hid (Below W0.heap.size W0 wr)) (fun _ _ iv _ => fs1.length - (intOf iv).toNat)
  case atStart => exact ⟨0, false, [], by omega, by simp, rfl, rfl, H0, Lib.hid (OwnF.nil_ _ _ _), Lib.hid (Below.refl _ _)⟩
  case round =>
    obtain ⟨i, put, X, hi, hXi, rfl, rfl, HI, HO, HB⟩ := hrel
    clear H0
    have hbx := HX1.out.below HB.out (by omega)
    have c0 := hbx.files
    have hfb : wr.heap[w.heap.size + 1]? = some (.cells #[.string ⟨f.name.toArray⟩, .slice pf f.b.length capf, .int .i64 (f.sure : Int)] 48 (0, 0)) := (HB.out.block _ (by omega)).trans HFB.out
    have b0 : wr.cell? ⟨w.heap.size + 1, 0, none⟩ = some (.string ⟨f.name.toArray⟩) := by rw [cell_of_row wr _ 0 _ _ _ hfb]; rfl
    have b1 : wr.cell? ⟨w.heap.size + 1, 1, none⟩ = some (.slice pf f.b.length capf) := by rw [cell_of_row wr _ 1 _ _ _ hfb]; rfl
    have b2 : wr.cell? ⟨w.heap.size + 1, 2, none⟩ = some (.int .i64 (f.sure : Int)) := by rw [cell_of_row wr _ 2 _ _ _ hfb]; rfl
    obtain ⟨px, capx, rfl⟩ := HO.out.shape
    have hsz := HB.out.size
    have hba : ∀ o, Below wr.heap.size wr (wr.alloc o) := fun o => (Below.refl _ _).alloc (Nat.le_refl _) _
    have HBA := Lib.hid hba
    have hsa : ∀ o, W0.heap.size ≤ (wr.alloc o).heap.size := fun o => by simp; omega
    have HOa := Lib.hid (fun o => HO.out.keep (hba o) (by omega))
    have HFa := Lib.hid (fun o => (HFV.out.below (HB.out.mono (by omega))).below ((hba o).mono (show B ≤ wr.heap.size by omega)))
    obtain ⟨SF, hSF⟩ : ∃ S : ByteArray, (⟨f.name.toArray⟩ : ByteArray) = S := ⟨_, rfl⟩
    rw [hSF] at b0
    have HSF := Lib.hid hSF
    have HGF := Lib.hid (show ∀ o t, o = Obj.cells #[.string SF, .slice pf f.b.length capf, .int .i64 (f.sure : Int)] t (0, 0) → ∃ t fr, (wr.alloc o).heap[wr.heap.size]? = some (.cells #[strV f.name, .slice pf f.b.length capf, .int .i64 (f.sure : Int)] t fr) from fun o t ho => ⟨t, (0, 0), by rw [ho, strV, HSF.out]; exact heap_alloc_new _ _⟩)
    clear hbx hfb hba
    by_cases hlt : i < fs1.length
    · obtain ⟨g, hg⟩ : ∃ g, fs1[i]? = some g := ⟨fs1[i], List.getElem?_eq_getElem hlt⟩
      have hgn := hfn1 g (List.mem_of_getElem? hg)
      obtain ⟨blk, vg, rfl, hblk, hvg, x0, x1, x2⟩ := (HO1.out.keep HB.out (by omega)).at_ hg
      rw [Nat.zero_add] at x0 x1 x2
      obtain ⟨pg, capg, rfl, _, _⟩ := hvg.shape
      unfold strV at x0
      have HVG := Lib.hid hvg
      have q1 : decide ((i : Int) < (fs1.length : Int)) = true := by rw [decide_eq_true_eq]; omega
      have i1 : (i : Int) < (fs1.length : Int) := by omega
      have HLT := Lib.hid hlt
      have HLS := Lib.hid (fun W => less_any f.name g.name W (by omega) (by omega))
      rw [hSF] at HLS
      obtain ⟨SG, hSG⟩ : ∃ S : ByteArray, (⟨g.name.toArray⟩ : ByteArray) = S := ⟨_, rfl⟩
      rw [hSG] at x0 HLS
      have HSG := Lib.hid hSG
      have hn := HI.out
      have hgrow : True := trivial
      cases put with
      | true =>
        have hXi : X.length ≤ i + 1 := hXi
        rw [rest_put hg, show X ++ g :: restL true f (fs1.drop (i + 1)) = (X ++ [g]) ++ restL true f (fs1.drop (i + 1)) by simp] at hn
        obtain ⟨Y, hY⟩ : ∃ Y, X ++ [g] = Y := ⟨_, rfl⟩
        have hYl : Y.length = X.length + 1 := by rw [← hY]; simp
        rw [hY] at hn
        have HN := Lib.hid hn
        have HY := Lib.hid hY
        clear hn hlt hvg hSF hSG HI hY HLS
        go_wp2_with fail
        go_quiet (fail)
        obtain ⟨W, hW⟩ : ∃ W, wr.drewN nq = W := ⟨_, rfl⟩
        rw [hW]
        have HBW0 := Lib.hid (show Below W0.heap.size W0 W by rw [← hW]; exact below_drewN HB.out nq)
        have HOX := Lib.hid (show OwnF XB B W0.heap.size W (.slice px X.length capx) X by rw [← hW]; exact HO.out.keep (below_drewN (Below.refl _ _) nq) (by omega))
        clear hW c0 x0 x1 x2 b0 b1 b2
        obtain ⟨blk2, vg2, hpe, _, hvg2, y0, y1, y2⟩ := (HO1.out.keep HBW0.out (by omega)).at_ hg
        simp only [Option.some.injEq, Addr.mk.injEq] at hpe
        obtain ⟨rfl, _⟩ := hpe
        obtain ⟨pg2, capg2, rfl, _, _⟩ := hvg2.shape
        unfold strV at y0
        rw [Nat.zero_add] at y0 y1 y2
        rw [HSG.out] at y0
        have c0W := (HX1.out.below HBW0.out (by omega)).files
        have hbaW : ∀ o, Below W.heap.size W (W.alloc o) := fun o => (Below.refl _ _).alloc (Nat.le_refl _) _
        have hszW := HBW0.out.size
        have HOW := Lib.hid (fun o => HOX.out.keep (hbaW o) (by omega))
        have HVW := Lib.hid (fun o => hvg2.below ((hbaW o).mono (show B ≤ W.heap.size by omega)))
        have HGG := Lib.hid (show ∀ o t, o = Obj.cells #[.string SG, .slice pg2 g.b.length capg2, .int .i64 (g.sure : Int)] t (0, 0) → ∃ t fr, (W.alloc o).heap[W.heap.size]? = some (.cells #[strV g.name, .slice pg2 g.b.length capg2, .int .i64 (g.sure : Int)] t fr) from fun o t ho => ⟨t, (0, 0), by rw [ho, strV, HSG.out]; exact heap_alloc_new _ _⟩)
        have hsW : ∀ o, W0.heap.size ≤ (W.alloc o).heap.size := fun o => by simp; omega
        have HBW := Lib.hid (fun o => HBW0.out.trans ((hbaW o).mono (by omega)))
        clear hbaW hg hvg2 hszW
        go_wp2_with (at_builtin; go_loud (refine wpList_append_file rfl _ _ rfl B W0.heap.size _ X rfl (HOW.out _) g (.slice pg2 g.b.length capg2) _ rfl W.heap.size rfl (HGG.out _ _ rfl) (HVW.out _) (by omega) (by omega) (hsW _) ?_))
        intro v3 w3 hown3 hb3
        rw [HY.out] at hown3
        have HO3 := Lib.hid hown3
        have HB3 := Lib.hid ((HBW.out _).trans hb3)
        clear hown3 hb3
        go_wp2_with fail
        have hlt := HLT.out
        go_roundw
        case rel => exact ⟨i + 1, true, Y, by omega, (show Y.length ≤ i + 1 + 1 by omega), rfl, by go_num, HN, HO3, HB3⟩
        case measure => simp [intOf]; omega
      | false =>
        have hXi : X.length ≤ i := hXi
        cases hls : lessL f.name g.name with
        | true =>
          rw [hls] at HLS
          rw [rest_here hg hls, show X ++ f :: g :: restL true f (fs1.drop (i + 1)) = ((X ++ [f]) ++ [g]) ++ restL true f (fs1.drop (i + 1)) by simp] at hn
          obtain ⟨Y1, hY1⟩ : ∃ Y, X ++ [f] = Y := ⟨_, rfl⟩
          have hY1l : Y1.length = X.length + 1 := by rw [← hY1]; simp
          rw [hY1] at hn
          obtain ⟨Y, hY⟩ : ∃ Y, Y1 ++ [g] = Y := ⟨_, rfl⟩
          have hYl : Y.length = Y1.length + 1 := by rw [← hY]; simp
          rw [hY] at hn
          have HN := Lib.hid hn
          have HY := Lib.hid hY
          have HY1 := Lib.hid hY1
          clear hn hlt hvg hSF hSG HI hY hY1 hls
          go_wp2_with fail
          go_quiet ((go_at_call 63; refine Calls.quiet_of (HLS.out _)))
          obtain ⟨V, hV⟩ : ∃ W, wr.drewN nq = W := ⟨_, rfl⟩
          rw [hV]
          have hWb : Below wr.heap.size wr V := by rw [← hV]; exact below_drewN (Below.refl _ _) nq
          have b0V : V.cell? ⟨w.heap.size + 1, 0, none⟩ = some (.string SF) := by rw [← hV]; exact b0
          have b1V : V.cell? ⟨w.heap.size + 1, 1, none⟩ = some (.slice pf f.b.length capf) := by rw [← hV]; exact b1
          have b2V : V.cell? ⟨w.heap.size + 1, 2, none⟩ = some (.int .i64 (f.sure : Int)) := by rw [← hV]; exact b2
          have hbaV : ∀ o, Below V.heap.size V (V.alloc o) := fun o => (Below.refl _ _).alloc (Nat.le_refl _) _
          have hVs : wr.heap.size ≤ V.heap.size := hWb.size
          have HOV := Lib.hid (fun o => (HO.out.keep hWb (by omega)).keep (hbaV o) (by omega))
          have HFVV := Lib.hid (fun o => ((HFV.out.below (HB.out.mono (by omega))).below (hWb.mono (by omega))).below ((hbaV o).mono (show B ≤ V.heap.size by omega)))
          have HGV := Lib.hid (show ∀ o t, o = Obj.cells #[.string SF, .slice pf f.b.length capf, .int .i64 (f.sure : Int)] t (0, 0) → ∃ t fr, (V.alloc o).heap[V.heap.size]? = some (.cells #[strV f.name, .slice pf f.b.length capf, .int .i64 (f.sure : Int)] t fr) from fun o t ho => ⟨t, (0, 0), by rw [ho, strV, HSF.out]; exact heap_alloc_new _ _⟩)
          have hsV : ∀ o, W0.heap.size ≤ (V.alloc o).heap.size := fun o => by simp; omega
          have HBV := Lib.hid (fun o => HB.out.trans ((hWb.mono hsz).trans ((hbaV o).mono (by omega))))
          clear hV c0 x0 x1 x2 b0 b1 b2 hbaV hWb hVs
          go_wp2_with (at_builtin; go_loud (refine wpList_append_file rfl _ _ rfl B W0.heap.size _ X rfl (HOV.out _) f (.slice pf f.b.length capf) _ rfl V.heap.size rfl (HGV.out _ _ rfl) (HFVV.out _) (by omega) (by omega) (hsV _) ?_))
          intro v3 W hown3 hb3
          rw [HY1.out] at hown3
          obtain ⟨p3, cap3, rfl⟩ := hown3.shape
          have HOX := Lib.hid hown3
          have HBW0 := Lib.hid ((HBV.out _).trans hb3)
          clear hown3 hb3 b0V b1V b2V
          obtain ⟨blk2, vg2, hpe, _, hvg2, y0, y1, y2⟩ := (HO1.out.keep HBW0.out (by omega)).at_ hg
          simp only [Option.some.injEq, Addr.mk.injEq] at hpe
          obtain ⟨rfl, _⟩ := hpe
          obtain ⟨pg2, capg2, rfl, _, _⟩ := hvg2.shape
          unfold strV at y0
          rw [Nat.zero_add] at y0 y1 y2
          rw [HSG.out] at y0
          have c0W := (HX1.out.below HBW0.out (by omega)).files
          have hbaW : ∀ o, Below W.heap.size W (W.alloc o) := fun o => (Below.refl _ _).alloc (Nat.le_refl _) _
          have hszW := HBW0.out.size
          have HOW := Lib.hid (fun o => HOX.out.keep (hbaW o) (by omega))
          have HVW := Lib.hid (fun o => hvg2.below ((hbaW o).mono (show B ≤ W.heap.size by omega)))
          have HGG := Lib.hid (show ∀ o t, o = Obj.cells #[.string SG, .slice pg2 g.b.length capg2, .int .i64 (g.sure : Int)] t (0, 0) → ∃ t fr, (W.alloc o).heap[W.heap.size]? = some (.cells #[strV g.name, .slice pg2 g.b.length capg2, .int .i64 (g.sure : Int)] t fr) from fun o t ho => ⟨t, (0, 0), by rw [ho, strV, HSG.out]; exact heap_alloc_new _ _⟩)
          have hsW : ∀ o, W0.heap.size ≤ (W.alloc o).heap.size := fun o => by simp; omega
          have HBW := Lib.hid (fun o => HBW0.out.trans ((hbaW o).mono (by omega)))
          clear hbaW hg hvg2 hszW
          go_wp2_with (at_builtin; go_loud (refine wpList_append_file rfl _ _ rfl B W0.heap.size _ Y1 rfl (HOW.out _) g (.slice pg2 g.b.length capg2) _ rfl W.heap.size rfl (HGG.out _ _ rfl) (HVW.out _) (by omega) (by omega) (hsW _) ?_))
          intro v3 w3 hown3 hb3
          rw [HY.out] at hown3
          have HO3 := Lib.hid hown3
          have HB3 := Lib.hid ((HBW.out _).trans hb3)
          clear hown3 hb3
          go_wp2_with fail
          have hlt := HLT.out
          go_roundw
          case rel => exact ⟨i + 1, true, Y, by omega, (show Y.length ≤ i + 1 + 1 by omega), rfl, by go_num, HN, HO3, HB3⟩
          case measure => simp [intOf]; omega
        | false =>
          rw [hls] at HLS
          rw [rest_later hg hls, show X ++ g :: restL false f (fs1.drop (i + 1)) = (X ++ [g]) ++ restL false f (fs1.drop (i + 1)) by simp] at hn
          obtain ⟨Y, hY⟩ : ∃ Y, X ++ [g] = Y := ⟨_, rfl⟩
          have hYl : Y.length = X.length + 1 := by rw [← hY]; simp
          rw [hY] at hn
          have HN := Lib.hid hn
          have HY := Lib.hid hY
          clear hn hlt hvg hSF hSG HI hY hls
          go_wp2_with fail
          go_quiet ((go_at_call 63; refine Calls.quiet_of (HLS.out _)))
          obtain ⟨W, hW⟩ : ∃ W, wr.drewN nq = W := ⟨_, rfl⟩
          rw [hW]
          have HBW0 := Lib.hid (show Below W0.heap.size W0 W by rw [← hW]; exact below_drewN HB.out nq)
          have HOX := Lib.hid (show OwnF XB B W0.heap.size W (.slice px X.length capx) X by rw [← hW]; exact HO.out.keep (below_drewN (Below.refl _ _) nq) (by omega))
          clear hW c0 x0 x1 x2 b0 b1 b2
          obtain ⟨blk2, vg2, hpe, _, hvg2, y0, y1, y2⟩ := (HO1.out.keep HBW0.out (by omega)).at_ hg
          simp only [Option.some.injEq, Addr.mk.injEq] at hpe
          obtain ⟨rfl, _⟩ := hpe
          obtain ⟨pg2, capg2, rfl, _, _⟩ := hvg2.shape
          unfold strV at y0
          rw [Nat.zero_add] at y0 y1 y2
          rw [HSG.out] at y0
          have c0W := (HX1.out.below HBW0.out (by omega)).files
          have hbaW : ∀ o, Below W.heap.size W (W.alloc o) := fun o => (Below.refl _ _).alloc (Nat.le_refl _) _
          have hszW := HBW0.out.size
          have HOW := Lib.hid (fun o => HOX.out.keep (hbaW o) (by omega))
          have HVW := Lib.hid (fun o => hvg2.below ((hbaW o).mono (show B ≤ W.heap.size by omega)))
          have HGG := Lib.hid (show ∀ o t, o = Obj.cells #[.string SG, .slice pg2 g.b.length capg2, .int .i64 (g.sure : Int)] t (0, 0) → ∃ t fr, (W.alloc o).heap[W.heap.size]? = some (.cells #[strV g.name, .slice pg2 g.b.length capg2, .int .i64 (g.sure : Int)] t fr) from fun o t ho => ⟨t, (0, 0), by rw [ho, strV, HSG.out]; exact heap_alloc_new _ _⟩)
          have hsW : ∀ o, W0.heap.size ≤ (W.alloc o).heap.size := fun o => by simp; omega
          have HBW := Lib.hid (fun o => HBW0.out.trans ((hbaW o).mono (by omega)))
          clear hbaW hg hvg2 hszW
          go_wp2_with (at_builtin; go_loud (refine wpList_append_file rfl _ _ rfl B W0.heap.size _ X rfl (HOW.out _) g (.slice pg2 g.b.length capg2) _ rfl W.heap.size rfl (HGG.out _ _ rfl) (HVW.out _) (by omega) (by omega) (hsW _) ?_))
          intro v3 w3 hown3 hb3
          rw [HY.out] at hown3
          have HO3 := Lib.hid hown3
          have HB3 := Lib.hid ((HBW.out _).trans hb3)
          clear hown3 hb3
          go_wp2_with fail
          have hlt := HLT.out
          go_roundw
          case rel => exact ⟨i + 1, false, Y, by omega, (show Y.length ≤ i + 1 by omega), rfl, by go_num, HN, HO3, HB3⟩
          case measure => simp [intOf]; omega
    · obtain rfl : i = fs1.length := by omega
      have q1 : decide ((fs1.length : Int) < (fs1.length : Int)) = false := by simp
      have hn := HI.out
      rw [List.drop_length] at hn
      cases put with
      | true =>
        obtain rfl : X = RES := by simpa [restL] using hn
        clear hn HI hlt c0 b0 b1 b2
        have hbxE := HX1.out.below HB.out (by omega)
        have k0 := hbxE.files
        have k1 := hbxE.quota
        have k2 := hbxE.armed
        have k3 := hbxE.stopped
        have fE := fun k => hbxE.free k
        have hbyE := HY1.out.below HB.out (by omega)
        have z0 := hbyE.files
        have z1 := hbyE.quota
        have z2 := hbyE.armed
        have z3 := hbyE.stopped
        have gE := fun k => hbyE.free k
        have hszE := (HB.out).size
        have HFE := Lib.hid ((((((HO.out).set (g := w.heap.size) (i := 0) (u := .slice px X.length capx) hB (by omega)).set (g := w.heap.size + 2) (i := 0) (u := .slice px X.length capx) (by omega) (by omega)).set (g := w.heap.size + 2) (i := 1) (u := .int .i64 d.quota) (by omega) (by omega)).set (g := w.heap.size + 2) (i := 2) (u := .int .i64 d.armed) (by omega) (by omega)).set (g := w.heap.size + 2) (i := 3) (u := .bool d.stopped) (by omega) (by omega))
        have HBF := Lib.hid (box_four (hbyE.other (k := w.heap.size) (i := 0) (u := .slice px X.length capx) (by omega)) (.slice px X.length capx) { d with L := X })
        have HBE := Lib.hid (show Below w.heap.size w _ from (((((HB1.out.trans ((HB.out).mono (by omega))).setCell (p := ⟨w.heap.size, 0, none⟩) (Nat.le_refl _) (.slice px X.length capx)).setCell (p := ⟨w.heap.size + 2, 0, none⟩) (by show w.heap.size ≤ w.heap.size + 2; omega) (.slice px X.length capx)).setCell (p := ⟨w.heap.size + 2, 1, none⟩) (by show w.heap.size ≤ w.heap.size + 2; omega) (.int .i64 d.quota)).setCell (p := ⟨w.heap.size + 2, 2, none⟩) (by show w.heap.size ≤ w.heap.size + 2; omega) (.int .i64 d.armed)).setCell (p := ⟨w.heap.size + 2, 3, none⟩) (by show w.heap.size ≤ w.heap.size + 2; omega) (.bool d.stopped))
        clear hbxE hbyE
        go_wp2_with fail
        refine bodyPost_ret (v := diskV (.slice px X.length capx) { d with L := X }) (results_cell_row rfl _ _ (w.heap.size + 2) 29 _ (0, 0) _ rfl HBF.out Try.underlying29 rfl infoDisk) rfl ⟨_, rfl, HFE.out.weaken (by omega), HBE.out⟩
      | false =>
        have hn2 : X ++ [f] = RES := hn
        have hXi : X.length ≤ fs1.length := hXi
        have HY := Lib.hid hn2
        clear hn HI hlt hn2 hSF
        go_wp2_with (at_builtin; go_loud (refine wpList_append_file rfl _ _ rfl B W0.heap.size _ X rfl (HOa.out _) f (.slice pf f.b.length capf) _ rfl wr.heap.size rfl (HGF.out _ _ rfl) (HFa.out _) (by omega) (by omega) (hsa _) ?_))
        intro v3 w3 hown3 hb3
        rw [HY.out] at hown3
        obtain ⟨p3, cap3, rfl⟩ := hown3.shape
        have HO3 := Lib.hid hown3
        have HB3 := Lib.hid (HB.out.trans (((HBA.out _).mono (by omega)).trans hb3))
        clear hown3 hb3 b0 b1 b2 c0
        have hbxE := HX1.out.below HB3.out (by omega)
        have k0 := hbxE.files
        have k1 := hbxE.quota
        have k2 := hbxE.armed
        have k3 := hbxE.stopped
        have fE := fun k => hbxE.free k
        have hbyE := HY1.out.below HB3.out (by omega)
        have z0 := hbyE.files
        have z1 := hbyE.quota
        have z2 := hbyE.armed
        have z3 := hbyE.stopped
        have gE := fun k => hbyE.free k
        have hszE := (HB3.out).size
        have HFE := Lib.hid ((((((HO3.out).set (g := w.heap.size) (i := 0) (u := .slice p3 RES.length cap3) hB (by omega)).set (g := w.heap.size + 2) (i := 0) (u := .slice p3 RES.length cap3) (by omega) (by omega)).set (g := w.heap.size + 2) (i := 1) (u := .int .i64 d.quota) (by omega) (by omega)).set (g := w.heap.size + 2) (i := 2) (u := .int .i64 d.armed) (by omega) (by omega)).set (g := w.heap.size + 2) (i := 3) (u := .bool d.stopped) (by omega) (by omega))
        have HBF := Lib.hid (box_four (hbyE.other (k := w.heap.size) (i := 0) (u := .slice p3 RES.length cap3) (by omega)) (.slice p3 RES.length cap3) { d with L := RES })
        have HBE := Lib.hid (show Below w.heap.size w _ from (((((HB1.out.trans ((HB3.out).mono (by omega))).setCell (p := ⟨w.heap.size, 0, none⟩) (Nat.le_refl _) (.slice p3 RES.length cap3)).setCell (p := ⟨w.heap.size + 2, 0, none⟩) (by show w.heap.size ≤ w.heap.size + 2; omega) (.slice p3 RES.length cap3)).setCell (p := ⟨w.heap.size + 2, 1, none⟩) (by show w.heap.size ≤ w.heap.size + 2; omega) (.int .i64 d.quota)).setCell (p := ⟨w.heap.size + 2, 2, none⟩) (by show w.heap.size ≤ w.heap.size + 2; omega) (.int .i64 d.armed)).setCell (p := ⟨w.heap.size + 2, 3, none⟩) (by show w.heap.size ≤ w.heap.size + 2; omega) (.bool d.stopped))
        clear hbxE hbyE
        go_wp2_with fail
        refine bodyPost_ret (v := diskV (.slice p3 RES.length cap3) { d with L := RES }) (results_cell_row rfl _ _ (w.heap.size + 2) 29 _ (0, 0) _ rfl HBF.out Try.underlying29 rfl infoDisk) rfl ⟨_, rfl, HFE.out.weaken (by omega), HBE.out⟩
end Go.Proofs.Ytljfpolcgegkpaa.DK
