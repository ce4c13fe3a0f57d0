/-
  An op done on both disks: Sync. Conditions: names and bytes as short leaves them; what the op holds lies below block A.
-/
import Derived.Test.YtljfpolcgegkpaaDskSim
import Derived.Deep.MidRow
set_option linter.unusedVariables false
namespace Go.Proofs.Ytljfpolcgegkpaa.DK
open Go.RowKit Go.Proofs.Ytljfpolcgegkpaa.MM Go.Maps
variable {X : Nat → Prop}

set_option maxRecDepth 100000 in
set_option maxHeartbeats 2000000 in
theorem step_sync (A gb g : Nat) (S : Nat → Prop) (L : Value) (d : DiskD) (v : Value) (o : OpD) (w : World) (h : Sim X A S w gb g L d) (hv : OpIn A w v o) (hA : A ≤ w.heap.size) (hnl : o.name.length ≤ 70) (htl : o.to_.length ≤ 70) (hbl : o.b.length ≤ 100) (hkl : o.keep.length ≤ 10) (hXl : ∀ k, X k → k < w.heap.size) (hm : o.do_ % 12 = 4) :
    Calls Try.prog 12 #[.pointer (some ⟨gb, 0, none⟩), v] w (StepC X A S gb (syncD d o.name).1 w) := by
  obtain ⟨R, hR⟩ : ∃ R, syncD d o.name = R := ⟨_, rfl⟩
  have hfr : Fits R.1 := hR ▸ sync_fits _ h.fits
  rw [hR]
  obtain ⟨mb, V, c, hco⟩ := h.co
  obtain ⟨vb, vk, rfl, hvb, hvk⟩ := hv.val
  obtain ⟨pb, cb, rfl, _, _⟩ := hvb.shape
  obtain ⟨pk, ck, hvk', hvk1, hvk2, hvk3, hvk4⟩ := id hvk
  rw [List.length_map] at hvk'
  subst hvk'
  obtain ⟨pl, cl, rfl, hlc, hcm⟩ := h.fi.shape
  obtain ⟨W0, hW0⟩ : ∃ W, (w.alloc (.cells (opCells o (.slice pb o.b.length cb) (.slice pk o.keep.length ck)) 39)).alloc (.cells #[.slice pl d.L.length cl, .int .i64 d.quota, .int .i64 d.armed, .bool d.stopped] 29) = W := ⟨_, rfl⟩
  have hb0 : Below w.heap.size w W0 := by rw [← hW0]; exact ((Below.refl _ _).alloc (Nat.le_refl _) _).alloc (by simp) _
  have hs0 : W0.heap.size = w.heap.size + 2 := by rw [← hW0]; simp
  have ho0 : W0.heap[w.heap.size]? = some (.cells (opCells o (.slice pb o.b.length cb) (.slice pk o.keep.length ck)) 39 (0, 0)) := by
    rw [← hW0]
    have h1 := heap_alloc_new w (.cells (opCells o (.slice pb o.b.length cb) (.slice pk o.keep.length ck)) 39)
    exact (((Below.refl _ _).alloc (Nat.le_refl _) _).block w.heap.size (by simp)).trans h1
  have hn0 : BoxAt W0 (w.heap.size + 1) (.slice pl d.L.length cl) d := by rw [← hW0]; exact two_new' w _ d
  have hgbw := h.bo.lt
  have hgS := h.gbS
  have hlow := h.low
  have hgA := h.gbA
  have hF := h.fits
  have harm := hco.arm1
  have hc0 := hco.below hb0
  have hbo0 : BothAt W0 gb g (.slice pl d.L.length cl) d := (hb0.block gb hgbw).trans h.bo
  have hfi0 : FilesIn (XS X S gb (w.heap.size + 1)) W0.heap.size W0 (.slice pl d.L.length cl) d.L := ((h.fi.below hb0).weak fun b hb hx => by
    rcases hx with hx | hx | hx | hx
    · exact .inl hx
    · exact .inr (.inl hx)
    · exact absurd hx (by omega)
    · exact .inr (.inr (.inr hx))).mono hb0.size
  have hA0 : A ≤ W0.heap.size := by omega
  have hvb0 := hvb.below (hb0.mono hA)
  have hvk0 := RowIn.below hvk (hb0.mono hA)
  have od := hv.d
  have oa0 := hv.a0
  have oa1 := hv.a1
  have on0 := hv.n0
  have on1 := hv.n1
  have ok := hv.k
  obtain ⟨SN, hSN⟩ : ∃ s : ByteArray, (⟨o.name.toArray⟩ : ByteArray) = s := ⟨_, rfl⟩
  obtain ⟨ST, hST⟩ : ∃ s : ByteArray, (⟨o.to_.toArray⟩ : ByteArray) = s := ⟨_, rfl⟩
  have e0 : W0.cell? ⟨w.heap.size, 0, none⟩ = some (.int .u8 (o.do_ : Int)) := by rw [cell_of_row _ _ 0 _ _ _ ho0]; rfl
  have e1 : W0.cell? ⟨w.heap.size, 1, none⟩ = some (.string SN) := by rw [cell_of_row _ _ 1 _ _ _ ho0, ← hSN]; rfl
  have e2 : W0.cell? ⟨w.heap.size, 2, none⟩ = some (.string ST) := by rw [cell_of_row _ _ 2 _ _ _ ho0, ← hST]; rfl
  have e3 : W0.cell? ⟨w.heap.size, 3, none⟩ = some (.slice pb o.b.length cb) := by rw [cell_of_row _ _ 3 _ _ _ ho0]; rfl
  have e4 : W0.cell? ⟨w.heap.size, 4, none⟩ = some (.int .i64 o.a) := by rw [cell_of_row _ _ 4 _ _ _ ho0]; rfl
  have e5 : W0.cell? ⟨w.heap.size, 5, none⟩ = some (.int .i64 o.n) := by rw [cell_of_row _ _ 5 _ _ _ ho0]; rfl
  have e6 : W0.cell? ⟨w.heap.size, 6, none⟩ = some (.slice pk o.keep.length ck) := by rw [cell_of_row _ _ 6 _ _ _ ho0]; rfl
  have E1 := Lib.hid e1
  have E2 := Lib.hid e2
  have E3 := Lib.hid e3
  have E4 := Lib.hid e4
  have E5 := Lib.hid e5
  have E6 := Lib.hid e6
  have HCO := Lib.hid hc0
  have HBO := Lib.hid hbo0
  have HFI := Lib.hid hfi0
  have HN := Lib.hid hn0
  have HVB := Lib.hid hvb0
  have HVK := Lib.hid hvk0
  have HSN := Lib.hid hSN
  have HST := Lib.hid hST
  have HB0 := Lib.hid (show Below A w W0 from hb0.mono hA)
  have HB00 := Lib.hid hb0
  have HF := Lib.hid hF
  have HGS := Lib.hid hgS
  have HLOW := Lib.hid hlow
  have hul := h.fits.used
  have HSL := Lib.hid hco.lt
  have HXL := Lib.hid hXl
  clear hXl
  have HOK := Lib.hid ok
  have i0 : w.heap[gb]? = some (.cells #[.pointer (some ⟨g, 0, none⟩), .slice pl d.L.length cl, .int .i64 d.quota, .int .i64 d.armed, .bool d.stopped] 35 (0, 0)) := h.bo
  have j0 := fun X => ((Below.refl w.heap.size w).alloc (Nat.le_refl _) X).cell (p := ⟨gb, 1, none⟩) hgbw |>.trans h.bo.b1
  have j1 := fun X => ((Below.refl w.heap.size w).alloc (Nat.le_refl _) X).cell (p := ⟨gb, 2, none⟩) hgbw |>.trans h.bo.b2
  have j2 := fun X => ((Below.refl w.heap.size w).alloc (Nat.le_refl _) X).cell (p := ⟨gb, 3, none⟩) hgbw |>.trans h.bo.b3
  have j3 := fun X => ((Below.refl w.heap.size w).alloc (Nat.le_refl _) X).cell (p := ⟨gb, 4, none⟩) hgbw |>.trans h.bo.b4
  have m1 : ((o.do_ : Int)).tmod 12 = 4 := by rw [Int.tmod_eq_emod_of_nonneg (by omega)]; omega
  have m2 : ((o.do_ : Int)) % 12 = 4 := by omega

  have HS0 := Lib.hid hs0
  have HW0 := Lib.hid hW0
  unfold opCells at hW0 ⊢
  rw [hSN, hST] at hW0 ⊢
  clear h hv hvb hvk hvk1 hvk2 hvk3 hvk4 hco hb0 hc0 hbo0 hfi0 hvb0 hvk0 hSN hST hF hgS hlow ok hs0 ho0 hn0 i0 e1 e2 e3 e4 e5 e6
  go_enter Try.func12, Try.ntmps12
  go_wp2_with fail
  clear hW0
  have hsl := HSL.out
  have hs0 := HS0.out
  obtain ⟨wd, hwd⟩ : ∃ wd, W0.drew = wd := ⟨_, rfl⟩
  have hbd : Below W0.heap.size W0 wd := by rw [← hwd]; exact (Below.refl _ _).drew
  have hsd : wd.heap.size = W0.heap.size := by rw [← hwd]; rfl
  refine RK.begin_ (T := fun k => ¬ S k) [(0, true), (1, true), (2, true), (3, true), (4, true), (5, true), (6, false), (7, true)] (by kernel_rfl) (by kernel_rfl) rfl (by kernel_rfl) (fun _ _ d _ _ h => by cases d <;> exact h) ?_
  simp only [RK.ordered, List.map_cons, List.map_nil, List.getElem?_toArray, List.getElem?_cons_succ, List.getElem?_cons_zero]
  rw [hwd]
  have hcod := HCO.out.below hbd
  have hbod : BothAt wd gb g (.slice pl d.L.length cl) d := (hbd.block gb HBO.out.lt).trans HBO.out
  have HBD := Lib.hid hbod
  have hfid : FilesIn (XS X S gb (w.heap.size + 1)) wd.heap.size wd (.slice pl d.L.length cl) d.L := (HFI.out.below hbd).mono hbd.size
  have HCD := Lib.hid hcod
  have HFD := Lib.hid hfid
  have hgw : ¬ S w.heap.size := fun q => by have := hsl _ q; omega
  have hgn : ¬ S (w.heap.size + 1) := fun q => by have := hsl _ q; omega
  have hws : w.heap.size < wd.heap.size := by omega
  have b0 := fun W (hW : Kep (fun k => ¬ S k) wd W) => (show W.cell? ⟨gb, 0, none⟩ = some (.pointer (some ⟨g, 0, none⟩)) from (hW.cell HBD.out.lt HGS.out 0).trans HBD.out.b0)
  have r1 := fun W (hW : Kep (fun k => ¬ S k) wd W) => (show W.cell? ⟨w.heap.size, 1, none⟩ = some (.string SN) from (hW.cell hws hgw 1).trans ((hbd.cell (p := ⟨w.heap.size, 1, none⟩) (by show w.heap.size < _; omega)).trans E1.out))
  have HSDD := Lib.hid hsd
  clear hwd hcod hbod hfid hsd hs0 hsl
  repeat (refine RK.take (by rfl) (by intro W hW; go_simp; with_reducible rfl) ?_; simp only [Act.put, List.setIfInBounds_toArray, List.set_cons_zero, List.set_cons_succ])
  clear b0 r1
  have hcall := csync_any S g mb V c d o.name wd HCD.out HF.out (by omega)
  rw [hR, HSN.out] at hcall
  refine RK.alone (by rfl) (fun K hK => ?_)
  go_simp
  refine hcall.mono ?_
  rintro e w1 ⟨rfl, S1, V1, c1, hco1, hx1⟩
  go_simp
  refine hK.out _ _ hx1.kep ?_
  clear hK K hcall
  repeat (refine RK.take (by rfl) (by intro W hW; go_simp; with_reducible rfl) ?_; simp only [Act.put, List.setIfInBounds_toArray, List.set_cons_zero, List.set_cons_succ])
  refine RK.done ?_
  have hsd := HSDD.out
  have hs0 := HS0.out
  obtain ⟨hbo1, hfi1, hgS1⟩ := Sim.ext (A := A) HBD.out HFD.out HGS.out hx1
  have hk1 := hx1.kep
  have hs1 := hk1.size
  have hnS1 : ¬ S1 (w.heap.size + 1) := fun q => (hx1.new _ q).elim hgn (fun q => by omega)
  obtain ⟨hlow1, hbA1⟩ := low_ext hx1 HLOW.out (by omega : A ≤ wd.heap.size)
  have hbw1 : Below A w w1 := (HB0.out.trans (hbd.mono (by omega))).trans hbA1
  have hn1 : BoxAt w1 (w.heap.size + 1) (.slice pl d.L.length cl) d := (hk1.block _ (by omega) hgn).trans ((hbd.block _ HN.out.lt).trans HN.out)
  have hfi1 : FilesIn (XS X S1 gb (w.heap.size + 1)) w1.heap.size w1 (.slice pl d.L.length cl) d.L := hfi1.mono hs1
  have HE1 := Lib.hid (show w1.cell? ⟨w.heap.size, 1, none⟩ = some (.string SN) from (hk1.cell hws hgw 1).trans ((hbd.cell (p := ⟨w.heap.size, 1, none⟩) (by show w.heap.size < _; omega)).trans E1.out))
  have HBO1 := Lib.hid hbo1
  have HFI1 := Lib.hid hfi1
  have HCO1 := Lib.hid hco1
  have HN1 := Lib.hid hn1
  have HGS1 := Lib.hid hgS1
  have HNS1 := Lib.hid hnS1
  have HLOW1 := Lib.hid hlow1
  have HBW1 := Lib.hid hbw1
  have HS1 := Lib.hid hs1
  have HNE := Lib.hid (show ∀ k, S1 k → S k ∨ w.heap.size ≤ k from fun k hk => (hx1.new k hk).imp id fun q => by omega)
  have KEP1 := Lib.hid (((kep_below (fun k => ¬ S k) HB00.out).trans (kep_below _ hbd)).trans hk1)
  have HVB1 := Lib.hid (BIn.below HVB.out ((hbd.mono (by omega)).trans hbA1))
  have HVK1 := Lib.hid (RowIn.below HVK.out ((hbd.mono (by omega)).trans hbA1))
  clear hbd hbo1 hfi1 hco1 hn1 hgS1 hnS1 hlow1 hbw1 hbA1 hx1 hk1 hgn hgw hws hsd hs0 hs1
  go_wp2_with fail
  obtain ⟨wq, hwq⟩ : ∃ wd, w1.drew = wd := ⟨_, rfl⟩
  have hbq : Below w1.heap.size w1 wq := by rw [← hwq]; exact (Below.refl _ _).drew
  have hsq : wq.heap.size = w1.heap.size := by rw [← hwq]; rfl
  refine RK.begin_ (T := fun k => k ≠ w.heap.size + 1) [(0, true), (1, true), (2, true), (3, true), (4, true), (5, true), (6, false), (7, true), (8, true), (9, true), (10, false), (11, true)] (by kernel_rfl) (by kernel_rfl) rfl (by kernel_rfl) (fun _ _ d _ _ h => by cases d <;> exact h) ?_
  simp only [RK.ordered, List.map_cons, List.map_nil, List.getElem?_toArray, List.getElem?_cons_succ, List.getElem?_cons_zero]
  rw [hwq]
  have hbo2 : BothAt wq gb g (.slice pl d.L.length cl) d := (hbq.block gb HBO1.out.lt).trans HBO1.out
  have HBO2 := Lib.hid hbo2
  have hws : w.heap.size < w1.heap.size := by have := HS1.out; have := HSDD.out; have := HS0.out; omega
  have hgn : gb ≠ w.heap.size + 1 := by omega
  have b1 := fun W (hW : Kep (fun k => k ≠ w.heap.size + 1) wq W) => (show W.cell? ⟨gb, 1, none⟩ = _ from (hW.cell HBO2.out.lt hgn 1).trans HBO2.out.b1)
  have b2 := fun W (hW : Kep (fun k => k ≠ w.heap.size + 1) wq W) => (show W.cell? ⟨gb, 2, none⟩ = _ from (hW.cell HBO2.out.lt hgn 2).trans HBO2.out.b2)
  have b3 := fun W (hW : Kep (fun k => k ≠ w.heap.size + 1) wq W) => (show W.cell? ⟨gb, 3, none⟩ = _ from (hW.cell HBO2.out.lt hgn 3).trans HBO2.out.b3)
  have b4 := fun W (hW : Kep (fun k => k ≠ w.heap.size + 1) wq W) => (show W.cell? ⟨gb, 4, none⟩ = _ from (hW.cell HBO2.out.lt hgn 4).trans HBO2.out.b4)
  have r1 := fun W (hW : Kep (fun k => k ≠ w.heap.size + 1) wq W) => (show W.cell? ⟨w.heap.size, 1, none⟩ = some (.string SN) from (hW.cell (by omega) (by omega) 1).trans ((hbq.cell (p := ⟨w.heap.size, 1, none⟩) hws).trans HE1.out))
  clear hwq hbo2
  repeat (refine RK.take (by rfl) (by intro W hW; go_simp; with_reducible rfl) ?_; simp only [Act.put, List.setIfInBounds_toArray, List.set_cons_zero, List.set_cons_succ])
  clear b1 b2 b3 b4 r1
  have hcoq := HCO1.out.below hbq
  have hfiq : FilesIn (XS X S1 gb (w.heap.size + 1)) wq.heap.size wq (.slice pl d.L.length cl) d.L := (HFI1.out.below hbq).mono hbq.size
  have hXq : ∀ k, XS X S1 gb (w.heap.size + 1) k → k < wq.heap.size := fun k hk => by
    rcases hk with hk | hk | hk | hk
    · exact hcoq.lt k hk
    · omega
    · have := HN1.out.lt; omega
    · have := HXL.out k hk; omega
  have hll : d.L.length ≤ 1000000 := by have := HF.out.len; omega
  have hnn : ∀ g ∈ d.L, g.name.length ≤ 1000000000 := fun x hx => by have := HF.out.name x hx; omega
  have hbb : ∀ g ∈ d.L, g.b.length ≤ 1000000000 := fun x hx => by have := HF.out.bytes x hx; omega
  have hcall := rsync_any wq.heap.size (.slice pl d.L.length cl) d o.name wq hfiq (Nat.le_refl _) hll (by omega) hnn harm.1 harm.2 hXq
  rw [hR, HSN.out] at hcall
  clear hR

  refine RK.alone (by rfl) (fun K hK => ?_)
  go_simp
  refine hcall.mono ?_
  rintro e w2 ⟨v2, rfl, ⟨L2, rfl, hfi2⟩, hb2⟩
  go_simp
  refine hK.out _ _ (kep_below _ hb2) ?_
  clear hK K hcall
  repeat (refine RK.take (by rfl) (by intro W hW; go_simp; with_reducible rfl) ?_; simp only [Act.put, List.setIfInBounds_toArray, List.set_cons_zero, List.set_cons_succ])
  obtain ⟨p2, c2, rfl, _, _⟩ := hfi2.shape
  have hn2 := (HN1.out.below hbq HN1.out.lt).below hb2 (HN1.out.below hbq HN1.out.lt).lt
  have hbo2 : BothAt w2 gb g (.slice pl d.L.length cl) d := (hb2.block gb HBO2.out.lt).trans HBO2.out
  have hco2 := hcoq.below hb2
  obtain ⟨z1, z2, z3, z4⟩ := sim_end (A := A) hco2 hbo2 hn2 hfi2 HGS1.out HNS1.out hgn HLOW1.out hgA (by omega) hfr
  refine RK.alone (by rfl) (fun K hK => ?_)
  refine wp_store_mid 29 _ _ rfl (w.heap.size + 1) 0 #[.slice p2 R.1.L.length c2, .int .i64 R.1.quota, .int .i64 R.1.armed, .bool R.1.stopped] rfl rfl ?_ (by kernel_rfl) ?_ ?_
  · intro j hj
    rw [Nat.zero_add, hn2.free j]
    refine ⟨?_, rfl⟩
    match j, hj with
    | 0, _ => rw [hn2.files]; rfl
    | 1, _ => rw [hn2.quota]; rfl
    | 2, _ => rw [hn2.armed]; rfl
    | 3, _ => rw [hn2.stopped]; rfl
  · refine all_oneCell_toArray (cs := [_, _, _, _]) ?_
    intro v hv
    simp only [List.mem_cons, List.not_mem_nil, or_false] at hv
    rcases hv with rfl | rfl | rfl | rfl <;> rfl
  refine hK.out _ _ (box_kep w2 (w.heap.size + 1) (.slice p2 R.1.L.length c2) R.1) ?_
  clear hK K
  repeat (refine RK.take (by rfl) (by intro W hW; go_simp; with_reducible rfl) ?_; simp only [Act.put, List.setIfInBounds_toArray, List.set_cons_zero, List.set_cons_succ])
  refine RK.done ?_
  obtain ⟨W3, hW3⟩ : ∃ W, putBox w2 (w.heap.size + 1) (.slice p2 R.1.L.length c2) R.1 = W := ⟨_, rfl⟩
  have hW3' : w2.setCells (w.heap.size + 1) 0 (#[.slice p2 R.1.L.length c2, .int .i64 R.1.quota, .int .i64 R.1.armed, .bool R.1.stopped] : Array Value).toList = W3 := hW3
  have kend := kep_end (gb := gb) (nb := w.heap.size + 1) (L := .slice p2 R.1.L.length c2) (r := R.1) KEP1.out hbq hb2 (by omega)
  rw [hW3] at z1 z2 z3 z4 kend
  rw [hW3']
  have HFIN := Lib.hid (show StepC X A S gb R.1 w (.returned (.bool true)) (putBoth W3 gb (.slice p2 R.1.L.length c2) R.1) from ⟨rfl, S1, g, _, z3, (HBW1.out.trans (hbq.mono (Nat.le_trans hA (Nat.le_of_lt hws)))).trans ((hb2.mono (by omega)).trans z4), kend, HNE.out⟩)
  clear kend
  unfold putBoth at HFIN
  have y0 := z1.files
  have y1 := z1.quota
  have y2 := z1.armed
  have y3 := z1.stopped
  have x1 := z2.b1
  have x2 := z2.b2
  have x3 := z2.b3
  have x4 := z2.b4
  have xf := fun k => z2.free k
  clear z1 z2 z3 z4 hW3 hW3' hn2 hbo2 hco2 hb2 hfi2 hbq hcoq hfiq hXq hll hnn hbb hfr hsq
  try simp only [Act.put]
  go_wp2_with fail
  go_ret
  exact HFIN.out
end Go.Proofs.Ytljfpolcgegkpaa.DK

/-
  An op done on both disks: Rename. Conditions: names and bytes as short leaves them; what the op holds lies below block A.
-/
namespace Go.Proofs.Ytljfpolcgegkpaa.DK
open Go.RowKit Go.Proofs.Ytljfpolcgegkpaa.MM Go.Maps
variable {X : Nat → Prop}

set_option maxRecDepth 100000 in
set_option maxHeartbeats 2000000 in
theorem step_rename (A gb g : Nat) (S : Nat → Prop) (L : Value) (d : DiskD) (v : Value) (o : OpD) (w : World) (h : Sim X A S w gb g L d) (hv : OpIn A w v o) (hA : A ≤ w.heap.size) (hnl : o.name.length ≤ 70) (htl : o.to_.length ≤ 70) (hbl : o.b.length ≤ 100) (hkl : o.keep.length ≤ 10) (hXl : ∀ k, X k → k < w.heap.size) (hm : o.do_ % 12 = 5) :
    Calls Try.prog 12 #[.pointer (some ⟨gb, 0, none⟩), v] w (StepC X A S gb (renameD d o.name o.to_).1 w) := by
  obtain ⟨R, hR⟩ : ∃ R, renameD d o.name o.to_ = R := ⟨_, rfl⟩
  have hfr : Fits R.1 := hR ▸ rename_fits _ _ h.fits
  rw [hR]
  obtain ⟨mb, V, c, hco⟩ := h.co
  obtain ⟨vb, vk, rfl, hvb, hvk⟩ := hv.val
  obtain ⟨pb, cb, rfl, _, _⟩ := hvb.shape
  obtain ⟨pk, ck, hvk', hvk1, hvk2, hvk3, hvk4⟩ := id hvk
  rw [List.length_map] at hvk'
  subst hvk'
  obtain ⟨pl, cl, rfl, hlc, hcm⟩ := h.fi.shape
  obtain ⟨W0, hW0⟩ : ∃ W, (w.alloc (.cells (opCells o (.slice pb o.b.length cb) (.slice pk o.keep.length ck)) 39)).alloc (.cells #[.slice pl d.L.length cl, .int .i64 d.quota, .int .i64 d.armed, .bool d.stopped] 29) = W := ⟨_, rfl⟩
  have hb0 : Below w.heap.size w W0 := by rw [← hW0]; exact ((Below.refl _ _).alloc (Nat.le_refl _) _).alloc (by simp) _
  have hs0 : W0.heap.size = w.heap.size + 2 := by rw [← hW0]; simp
  have ho0 : W0.heap[w.heap.size]? = some (.cells (opCells o (.slice pb o.b.length cb) (.slice pk o.keep.length ck)) 39 (0, 0)) := by
    rw [← hW0]
    have h1 := heap_alloc_new w (.cells (opCells o (.slice pb o.b.length cb) (.slice pk o.keep.length ck)) 39)
    exact (((Below.refl _ _).alloc (Nat.le_refl _) _).block w.heap.size (by simp)).trans h1
  have hn0 : BoxAt W0 (w.heap.size + 1) (.slice pl d.L.length cl) d := by rw [← hW0]; exact two_new' w _ d
  have hgbw := h.bo.lt
  have hgS := h.gbS
  have hlow := h.low
  have hgA := h.gbA
  have hF := h.fits
  have harm := hco.arm1
  have hc0 := hco.below hb0
  have hbo0 : BothAt W0 gb g (.slice pl d.L.length cl) d := (hb0.block gb hgbw).trans h.bo
  have hfi0 : FilesIn (XS X S gb (w.heap.size + 1)) W0.heap.size W0 (.slice pl d.L.length cl) d.L := ((h.fi.below hb0).weak fun b hb hx => by
    rcases hx with hx | hx | hx | hx
    · exact .inl hx
    · exact .inr (.inl hx)
    · exact absurd hx (by omega)
    · exact .inr (.inr (.inr hx))).mono hb0.size
  have hA0 : A ≤ W0.heap.size := by omega
  have hvb0 := hvb.below (hb0.mono hA)
  have hvk0 := RowIn.below hvk (hb0.mono hA)
  have od := hv.d
  have oa0 := hv.a0
  have oa1 := hv.a1
  have on0 := hv.n0
  have on1 := hv.n1
  have ok := hv.k
  obtain ⟨SN, hSN⟩ : ∃ s : ByteArray, (⟨o.name.toArray⟩ : ByteArray) = s := ⟨_, rfl⟩
  obtain ⟨ST, hST⟩ : ∃ s : ByteArray, (⟨o.to_.toArray⟩ : ByteArray) = s := ⟨_, rfl⟩
  have e0 : W0.cell? ⟨w.heap.size, 0, none⟩ = some (.int .u8 (o.do_ : Int)) := by rw [cell_of_row _ _ 0 _ _ _ ho0]; rfl
  have e1 : W0.cell? ⟨w.heap.size, 1, none⟩ = some (.string SN) := by rw [cell_of_row _ _ 1 _ _ _ ho0, ← hSN]; rfl
  have e2 : W0.cell? ⟨w.heap.size, 2, none⟩ = some (.string ST) := by rw [cell_of_row _ _ 2 _ _ _ ho0, ← hST]; rfl
  have e3 : W0.cell? ⟨w.heap.size, 3, none⟩ = some (.slice pb o.b.length cb) := by rw [cell_of_row _ _ 3 _ _ _ ho0]; rfl
  have e4 : W0.cell? ⟨w.heap.size, 4, none⟩ = some (.int .i64 o.a) := by rw [cell_of_row _ _ 4 _ _ _ ho0]; rfl
  have e5 : W0.cell? ⟨w.heap.size, 5, none⟩ = some (.int .i64 o.n) := by rw [cell_of_row _ _ 5 _ _ _ ho0]; rfl
  have e6 : W0.cell? ⟨w.heap.size, 6, none⟩ = some (.slice pk o.keep.length ck) := by rw [cell_of_row _ _ 6 _ _ _ ho0]; rfl
  have E1 := Lib.hid e1
  have E2 := Lib.hid e2
  have E3 := Lib.hid e3
  have E4 := Lib.hid e4
  have E5 := Lib.hid e5
  have E6 := Lib.hid e6
  have HCO := Lib.hid hc0
  have HBO := Lib.hid hbo0
  have HFI := Lib.hid hfi0
  have HN := Lib.hid hn0
  have HVB := Lib.hid hvb0
  have HVK := Lib.hid hvk0
  have HSN := Lib.hid hSN
  have HST := Lib.hid hST
  have HB0 := Lib.hid (show Below A w W0 from hb0.mono hA)
  have HB00 := Lib.hid hb0
  have HF := Lib.hid hF
  have HGS := Lib.hid hgS
  have HLOW := Lib.hid hlow
  have hul := h.fits.used
  have HSL := Lib.hid hco.lt
  have HXL := Lib.hid hXl
  clear hXl
  have HOK := Lib.hid ok
  have i0 : w.heap[gb]? = some (.cells #[.pointer (some ⟨g, 0, none⟩), .slice pl d.L.length cl, .int .i64 d.quota, .int .i64 d.armed, .bool d.stopped] 35 (0, 0)) := h.bo
  have j0 := fun X => ((Below.refl w.heap.size w).alloc (Nat.le_refl _) X).cell (p := ⟨gb, 1, none⟩) hgbw |>.trans h.bo.b1
  have j1 := fun X => ((Below.refl w.heap.size w).alloc (Nat.le_refl _) X).cell (p := ⟨gb, 2, none⟩) hgbw |>.trans h.bo.b2
  have j2 := fun X => ((Below.refl w.heap.size w).alloc (Nat.le_refl _) X).cell (p := ⟨gb, 3, none⟩) hgbw |>.trans h.bo.b3
  have j3 := fun X => ((Below.refl w.heap.size w).alloc (Nat.le_refl _) X).cell (p := ⟨gb, 4, none⟩) hgbw |>.trans h.bo.b4
  have m1 : ((o.do_ : Int)).tmod 12 = 5 := by rw [Int.tmod_eq_emod_of_nonneg (by omega)]; omega
  have m2 : ((o.do_ : Int)) % 12 = 5 := by omega

  have HS0 := Lib.hid hs0
  have HW0 := Lib.hid hW0
  unfold opCells at hW0 ⊢
  rw [hSN, hST] at hW0 ⊢
  clear h hv hvb hvk hvk1 hvk2 hvk3 hvk4 hco hb0 hc0 hbo0 hfi0 hvb0 hvk0 hSN hST hF hgS hlow ok hs0 ho0 hn0 i0 e1 e2 e3 e4 e5 e6
  go_enter Try.func12, Try.ntmps12
  go_wp2_with fail
  clear hW0
  have hsl := HSL.out
  have hs0 := HS0.out
  obtain ⟨wd, hwd⟩ : ∃ wd, W0.drew = wd := ⟨_, rfl⟩
  have hbd : Below W0.heap.size W0 wd := by rw [← hwd]; exact (Below.refl _ _).drew
  have hsd : wd.heap.size = W0.heap.size := by rw [← hwd]; rfl
  refine RK.begin_ (T := fun k => ¬ S k) [(0, true), (1, true), (2, true), (3, true), (4, true), (5, true), (6, true), (7, true), (8, false), (9, true)] (by kernel_rfl) (by kernel_rfl) rfl (by kernel_rfl) (fun _ _ d _ _ h => by cases d <;> exact h) ?_
  simp only [RK.ordered, List.map_cons, List.map_nil, List.getElem?_toArray, List.getElem?_cons_succ, List.getElem?_cons_zero]
  rw [hwd]
  have hcod := HCO.out.below hbd
  have hbod : BothAt wd gb g (.slice pl d.L.length cl) d := (hbd.block gb HBO.out.lt).trans HBO.out
  have HBD := Lib.hid hbod
  have hfid : FilesIn (XS X S gb (w.heap.size + 1)) wd.heap.size wd (.slice pl d.L.length cl) d.L := (HFI.out.below hbd).mono hbd.size
  have HCD := Lib.hid hcod
  have HFD := Lib.hid hfid
  have hgw : ¬ S w.heap.size := fun q => by have := hsl _ q; omega
  have hgn : ¬ S (w.heap.size + 1) := fun q => by have := hsl _ q; omega
  have hws : w.heap.size < wd.heap.size := by omega
  have b0 := fun W (hW : Kep (fun k => ¬ S k) wd W) => (show W.cell? ⟨gb, 0, none⟩ = some (.pointer (some ⟨g, 0, none⟩)) from (hW.cell HBD.out.lt HGS.out 0).trans HBD.out.b0)
  have r1 := fun W (hW : Kep (fun k => ¬ S k) wd W) => (show W.cell? ⟨w.heap.size, 1, none⟩ = some (.string SN) from (hW.cell hws hgw 1).trans ((hbd.cell (p := ⟨w.heap.size, 1, none⟩) (by show w.heap.size < _; omega)).trans E1.out))
  have r2 := fun W (hW : Kep (fun k => ¬ S k) wd W) => (show W.cell? ⟨w.heap.size, 2, none⟩ = some (.string ST) from (hW.cell hws hgw 2).trans ((hbd.cell (p := ⟨w.heap.size, 2, none⟩) (by show w.heap.size < _; omega)).trans E2.out))
  have HSDD := Lib.hid hsd
  clear hwd hcod hbod hfid hsd hs0 hsl
  repeat (refine RK.take (by rfl) (by intro W hW; go_simp; with_reducible rfl) ?_; simp only [Act.put, List.setIfInBounds_toArray, List.set_cons_zero, List.set_cons_succ])
  clear b0 r1 r2
  have hcall := crename_any S g mb V c d o.name o.to_ wd HCD.out HF.out (by omega) (by omega)
  rw [hR, HSN.out, HST.out] at hcall
  refine RK.alone (by rfl) (fun K hK => ?_)
  go_simp
  refine hcall.mono ?_
  rintro e w1 ⟨rfl, S1, V1, c1, hco1, hx1⟩
  go_simp
  refine hK.out _ _ hx1.kep ?_
  clear hK K hcall
  repeat (refine RK.take (by rfl) (by intro W hW; go_simp; with_reducible rfl) ?_; simp only [Act.put, List.setIfInBounds_toArray, List.set_cons_zero, List.set_cons_succ])
  refine RK.done ?_
  have hsd := HSDD.out
  have hs0 := HS0.out
  obtain ⟨hbo1, hfi1, hgS1⟩ := Sim.ext (A := A) HBD.out HFD.out HGS.out hx1
  have hk1 := hx1.kep
  have hs1 := hk1.size
  have hnS1 : ¬ S1 (w.heap.size + 1) := fun q => (hx1.new _ q).elim hgn (fun q => by omega)
  obtain ⟨hlow1, hbA1⟩ := low_ext hx1 HLOW.out (by omega : A ≤ wd.heap.size)
  have hbw1 : Below A w w1 := (HB0.out.trans (hbd.mono (by omega))).trans hbA1
  have hn1 : BoxAt w1 (w.heap.size + 1) (.slice pl d.L.length cl) d := (hk1.block _ (by omega) hgn).trans ((hbd.block _ HN.out.lt).trans HN.out)
  have hfi1 : FilesIn (XS X S1 gb (w.heap.size + 1)) w1.heap.size w1 (.slice pl d.L.length cl) d.L := hfi1.mono hs1
  have HE1 := Lib.hid (show w1.cell? ⟨w.heap.size, 1, none⟩ = some (.string SN) from (hk1.cell hws hgw 1).trans ((hbd.cell (p := ⟨w.heap.size, 1, none⟩) (by show w.heap.size < _; omega)).trans E1.out))
  have HE2 := Lib.hid (show w1.cell? ⟨w.heap.size, 2, none⟩ = some (.string ST) from (hk1.cell hws hgw 2).trans ((hbd.cell (p := ⟨w.heap.size, 2, none⟩) (by show w.heap.size < _; omega)).trans E2.out))
  have HBO1 := Lib.hid hbo1
  have HFI1 := Lib.hid hfi1
  have HCO1 := Lib.hid hco1
  have HN1 := Lib.hid hn1
  have HGS1 := Lib.hid hgS1
  have HNS1 := Lib.hid hnS1
  have HLOW1 := Lib.hid hlow1
  have HBW1 := Lib.hid hbw1
  have HS1 := Lib.hid hs1
  have HNE := Lib.hid (show ∀ k, S1 k → S k ∨ w.heap.size ≤ k from fun k hk => (hx1.new k hk).imp id fun q => by omega)
  have KEP1 := Lib.hid (((kep_below (fun k => ¬ S k) HB00.out).trans (kep_below _ hbd)).trans hk1)
  have HVB1 := Lib.hid (BIn.below HVB.out ((hbd.mono (by omega)).trans hbA1))
  have HVK1 := Lib.hid (RowIn.below HVK.out ((hbd.mono (by omega)).trans hbA1))
  clear hbd hbo1 hfi1 hco1 hn1 hgS1 hnS1 hlow1 hbw1 hbA1 hx1 hk1 hgn hgw hws hsd hs0 hs1
  go_wp2_with fail
  obtain ⟨wq, hwq⟩ : ∃ wd, w1.drew = wd := ⟨_, rfl⟩
  have hbq : Below w1.heap.size w1 wq := by rw [← hwq]; exact (Below.refl _ _).drew
  have hsq : wq.heap.size = w1.heap.size := by rw [← hwq]; rfl
  refine RK.begin_ (T := fun k => k ≠ w.heap.size + 1) [(0, true), (1, true), (2, true), (3, true), (4, true), (5, true), (6, true), (7, true), (8, false), (9, true), (10, true), (11, true), (12, false), (13, true)] (by kernel_rfl) (by kernel_rfl) rfl (by kernel_rfl) (fun _ _ d _ _ h => by cases d <;> exact h) ?_
  simp only [RK.ordered, List.map_cons, List.map_nil, List.getElem?_toArray, List.getElem?_cons_succ, List.getElem?_cons_zero]
  rw [hwq]
  have hbo2 : BothAt wq gb g (.slice pl d.L.length cl) d := (hbq.block gb HBO1.out.lt).trans HBO1.out
  have HBO2 := Lib.hid hbo2
  have hws : w.heap.size < w1.heap.size := by have := HS1.out; have := HSDD.out; have := HS0.out; omega
  have hgn : gb ≠ w.heap.size + 1 := by omega
  have b1 := fun W (hW : Kep (fun k => k ≠ w.heap.size + 1) wq W) => (show W.cell? ⟨gb, 1, none⟩ = _ from (hW.cell HBO2.out.lt hgn 1).trans HBO2.out.b1)
  have b2 := fun W (hW : Kep (fun k => k ≠ w.heap.size + 1) wq W) => (show W.cell? ⟨gb, 2, none⟩ = _ from (hW.cell HBO2.out.lt hgn 2).trans HBO2.out.b2)
  have b3 := fun W (hW : Kep (fun k => k ≠ w.heap.size + 1) wq W) => (show W.cell? ⟨gb, 3, none⟩ = _ from (hW.cell HBO2.out.lt hgn 3).trans HBO2.out.b3)
  have b4 := fun W (hW : Kep (fun k => k ≠ w.heap.size + 1) wq W) => (show W.cell? ⟨gb, 4, none⟩ = _ from (hW.cell HBO2.out.lt hgn 4).trans HBO2.out.b4)
  have r1 := fun W (hW : Kep (fun k => k ≠ w.heap.size + 1) wq W) => (show W.cell? ⟨w.heap.size, 1, none⟩ = some (.string SN) from (hW.cell (by omega) (by omega) 1).trans ((hbq.cell (p := ⟨w.heap.size, 1, none⟩) hws).trans HE1.out))
  have r2 := fun W (hW : Kep (fun k => k ≠ w.heap.size + 1) wq W) => (show W.cell? ⟨w.heap.size, 2, none⟩ = some (.string ST) from (hW.cell (by omega) (by omega) 2).trans ((hbq.cell (p := ⟨w.heap.size, 2, none⟩) hws).trans HE2.out))
  clear hwq hbo2
  repeat (refine RK.take (by rfl) (by intro W hW; go_simp; with_reducible rfl) ?_; simp only [Act.put, List.setIfInBounds_toArray, List.set_cons_zero, List.set_cons_succ])
  clear b1 b2 b3 b4 r1 r2
  have hcoq := HCO1.out.below hbq
  have hfiq : FilesIn (XS X S1 gb (w.heap.size + 1)) wq.heap.size wq (.slice pl d.L.length cl) d.L := (HFI1.out.below hbq).mono hbq.size
  have hXq : ∀ k, XS X S1 gb (w.heap.size + 1) k → k < wq.heap.size := fun k hk => by
    rcases hk with hk | hk | hk | hk
    · exact hcoq.lt k hk
    · omega
    · have := HN1.out.lt; omega
    · have := HXL.out k hk; omega
  have hll : d.L.length ≤ 1000000 := by have := HF.out.len; omega
  have hnn : ∀ g ∈ d.L, g.name.length ≤ 1000000000 := fun x hx => by have := HF.out.name x hx; omega
  have hbb : ∀ g ∈ d.L, g.b.length ≤ 1000000000 := fun x hx => by have := HF.out.bytes x hx; omega
  have hcall := rrename_any wq.heap.size (.slice pl d.L.length cl) d o.name o.to_ wq hfiq (Nat.le_refl _) hll (by omega) (by omega) hnn harm.1 harm.2 hXq
  rw [hR, HSN.out, HST.out] at hcall
  clear hR

  refine RK.alone (by rfl) (fun K hK => ?_)
  go_simp
  refine hcall.mono ?_
  rintro e w2 ⟨v2, rfl, ⟨L2, rfl, hfi2⟩, hb2⟩
  go_simp
  refine hK.out _ _ (kep_below _ hb2) ?_
  clear hK K hcall
  repeat (refine RK.take (by rfl) (by intro W hW; go_simp; with_reducible rfl) ?_; simp only [Act.put, List.setIfInBounds_toArray, List.set_cons_zero, List.set_cons_succ])
  obtain ⟨p2, c2, rfl, _, _⟩ := hfi2.shape
  have hn2 := (HN1.out.below hbq HN1.out.lt).below hb2 (HN1.out.below hbq HN1.out.lt).lt
  have hbo2 : BothAt w2 gb g (.slice pl d.L.length cl) d := (hb2.block gb HBO2.out.lt).trans HBO2.out
  have hco2 := hcoq.below hb2
  obtain ⟨z1, z2, z3, z4⟩ := sim_end (A := A) hco2 hbo2 hn2 hfi2 HGS1.out HNS1.out hgn HLOW1.out hgA (by omega) hfr
  refine RK.alone (by rfl) (fun K hK => ?_)
  refine wp_store_mid 29 _ _ rfl (w.heap.size + 1) 0 #[.slice p2 R.1.L.length c2, .int .i64 R.1.quota, .int .i64 R.1.armed, .bool R.1.stopped] rfl rfl ?_ (by kernel_rfl) ?_ ?_
  · intro j hj
    rw [Nat.zero_add, hn2.free j]
    refine ⟨?_, rfl⟩
    match j, hj with
    | 0, _ => rw [hn2.files]; rfl
    | 1, _ => rw [hn2.quota]; rfl
    | 2, _ => rw [hn2.armed]; rfl
    | 3, _ => rw [hn2.stopped]; rfl
  · refine all_oneCell_toArray (cs := [_, _, _, _]) ?_
    intro v hv
    simp only [List.mem_cons, List.not_mem_nil, or_false] at hv
    rcases hv with rfl | rfl | rfl | rfl <;> rfl
  refine hK.out _ _ (box_kep w2 (w.heap.size + 1) (.slice p2 R.1.L.length c2) R.1) ?_
  clear hK K
  repeat (refine RK.take (by rfl) (by intro W hW; go_simp; with_reducible rfl) ?_; simp only [Act.put, List.setIfInBounds_toArray, List.set_cons_zero, List.set_cons_succ])
  refine RK.done ?_
  obtain ⟨W3, hW3⟩ : ∃ W, putBox w2 (w.heap.size + 1) (.slice p2 R.1.L.length c2) R.1 = W := ⟨_, rfl⟩
  have hW3' : w2.setCells (w.heap.size + 1) 0 (#[.slice p2 R.1.L.length c2, .int .i64 R.1.quota, .int .i64 R.1.armed, .bool R.1.stopped] : Array Value).toList = W3 := hW3
  have kend := kep_end (gb := gb) (nb := w.heap.size + 1) (L := .slice p2 R.1.L.length c2) (r := R.1) KEP1.out hbq hb2 (by omega)
  rw [hW3] at z1 z2 z3 z4 kend
  rw [hW3']
  have HFIN := Lib.hid (show StepC X A S gb R.1 w (.returned (.bool true)) (putBoth W3 gb (.slice p2 R.1.L.length c2) R.1) from ⟨rfl, S1, g, _, z3, (HBW1.out.trans (hbq.mono (Nat.le_trans hA (Nat.le_of_lt hws)))).trans ((hb2.mono (by omega)).trans z4), kend, HNE.out⟩)
  clear kend
  unfold putBoth at HFIN
  have y0 := z1.files
  have y1 := z1.quota
  have y2 := z1.armed
  have y3 := z1.stopped
  have x1 := z2.b1
  have x2 := z2.b2
  have x3 := z2.b3
  have x4 := z2.b4
  have xf := fun k => z2.free k
  clear z1 z2 z3 z4 hW3 hW3' hn2 hbo2 hco2 hb2 hfi2 hbq hcoq hfiq hXq hll hnn hbb hfr hsq
  try simp only [Act.put]
  go_wp2_with fail
  go_ret
  exact HFIN.out
end Go.Proofs.Ytljfpolcgegkpaa.DK

/-
  An op done on both disks: Remove. Conditions: names and bytes as short leaves them; what the op holds lies below block A.
-/
namespace Go.Proofs.Ytljfpolcgegkpaa.DK
open Go.RowKit Go.Proofs.Ytljfpolcgegkpaa.MM Go.Maps
variable {X : Nat → Prop}

set_option maxRecDepth 100000 in
set_option maxHeartbeats 2000000 in
theorem step_remove (A gb g : Nat) (S : Nat → Prop) (L : Value) (d : DiskD) (v : Value) (o : OpD) (w : World) (h : Sim X A S w gb g L d) (hv : OpIn A w v o) (hA : A ≤ w.heap.size) (hnl : o.name.length ≤ 70) (htl : o.to_.length ≤ 70) (hbl : o.b.length ≤ 100) (hkl : o.keep.length ≤ 10) (hXl : ∀ k, X k → k < w.heap.size) (hm : o.do_ % 12 = 6) :
    Calls Try.prog 12 #[.pointer (some ⟨gb, 0, none⟩), v] w (StepC X A S gb (removeD d o.name).1 w) := by
  obtain ⟨R, hR⟩ : ∃ R, removeD d o.name = R := ⟨_, rfl⟩
  have hfr : Fits R.1 := hR ▸ remove_fits _ h.fits
  rw [hR]
  obtain ⟨mb, V, c, hco⟩ := h.co
  obtain ⟨vb, vk, rfl, hvb, hvk⟩ := hv.val
  obtain ⟨pb, cb, rfl, _, _⟩ := hvb.shape
  obtain ⟨pk, ck, hvk', hvk1, hvk2, hvk3, hvk4⟩ := id hvk
  rw [List.length_map] at hvk'
  subst hvk'
  obtain ⟨pl, cl, rfl, hlc, hcm⟩ := h.fi.shape
  obtain ⟨W0, hW0⟩ : ∃ W, (w.alloc (.cells (opCells o (.slice pb o.b.length cb) (.slice pk o.keep.length ck)) 39)).alloc (.cells #[.slice pl d.L.length cl, .int .i64 d.quota, .int .i64 d.armed, .bool d.stopped] 29) = W := ⟨_, rfl⟩
  have hb0 : Below w.heap.size w W0 := by rw [← hW0]; exact ((Below.refl _ _).alloc (Nat.le_refl _) _).alloc (by simp) _
  have hs0 : W0.heap.size = w.heap.size + 2 := by rw [← hW0]; simp
  have ho0 : W0.heap[w.heap.size]? = some (.cells (opCells o (.slice pb o.b.length cb) (.slice pk o.keep.length ck)) 39 (0, 0)) := by
    rw [← hW0]
    have h1 := heap_alloc_new w (.cells (opCells o (.slice pb o.b.length cb) (.slice pk o.keep.length ck)) 39)
    exact (((Below.refl _ _).alloc (Nat.le_refl _) _).block w.heap.size (by simp)).trans h1
  have hn0 : BoxAt W0 (w.heap.size + 1) (.slice pl d.L.length cl) d := by rw [← hW0]; exact two_new' w _ d
  have hgbw := h.bo.lt
  have hgS := h.gbS
  have hlow := h.low
  have hgA := h.gbA
  have hF := h.fits
  have harm := hco.arm1
  have hc0 := hco.below hb0
  have hbo0 : BothAt W0 gb g (.slice pl d.L.length cl) d := (hb0.block gb hgbw).trans h.bo
  have hfi0 : FilesIn (XS X S gb (w.heap.size + 1)) W0.heap.size W0 (.slice pl d.L.length cl) d.L := ((h.fi.below hb0).weak fun b hb hx => by
    rcases hx with hx | hx | hx | hx
    · exact .inl hx
    · exact .inr (.inl hx)
    · exact absurd hx (by omega)
    · exact .inr (.inr (.inr hx))).mono hb0.size
  have hA0 : A ≤ W0.heap.size := by omega
  have hvb0 := hvb.below (hb0.mono hA)
  have hvk0 := RowIn.below hvk (hb0.mono hA)
  have od := hv.d
  have oa0 := hv.a0
  have oa1 := hv.a1
  have on0 := hv.n0
  have on1 := hv.n1
  have ok := hv.k
  obtain ⟨SN, hSN⟩ : ∃ s : ByteArray, (⟨o.name.toArray⟩ : ByteArray) = s := ⟨_, rfl⟩
  obtain ⟨ST, hST⟩ : ∃ s : ByteArray, (⟨o.to_.toArray⟩ : ByteArray) = s := ⟨_, rfl⟩
  have e0 : W0.cell? ⟨w.heap.size, 0, none⟩ = some (.int .u8 (o.do_ : Int)) := by rw [cell_of_row _ _ 0 _ _ _ ho0]; rfl
  have e1 : W0.cell? ⟨w.heap.size, 1, none⟩ = some (.string SN) := by rw [cell_of_row _ _ 1 _ _ _ ho0, ← hSN]; rfl
  have e2 : W0.cell? ⟨w.heap.size, 2, none⟩ = some (.string ST) := by rw [cell_of_row _ _ 2 _ _ _ ho0, ← hST]; rfl
  have e3 : W0.cell? ⟨w.heap.size, 3, none⟩ = some (.slice pb o.b.length cb) := by rw [cell_of_row _ _ 3 _ _ _ ho0]; rfl
  have e4 : W0.cell? ⟨w.heap.size, 4, none⟩ = some (.int .i64 o.a) := by rw [cell_of_row _ _ 4 _ _ _ ho0]; rfl
  have e5 : W0.cell? ⟨w.heap.size, 5, none⟩ = some (.int .i64 o.n) := by rw [cell_of_row _ _ 5 _ _ _ ho0]; rfl
  have e6 : W0.cell? ⟨w.heap.size, 6, none⟩ = some (.slice pk o.keep.length ck) := by rw [cell_of_row _ _ 6 _ _ _ ho0]; rfl
  have E1 := Lib.hid e1
  have E2 := Lib.hid e2
  have E3 := Lib.hid e3
  have E4 := Lib.hid e4
  have E5 := Lib.hid e5
  have E6 := Lib.hid e6
  have HCO := Lib.hid hc0
  have HBO := Lib.hid hbo0
  have HFI := Lib.hid hfi0
  have HN := Lib.hid hn0
  have HVB := Lib.hid hvb0
  have HVK := Lib.hid hvk0
  have HSN := Lib.hid hSN
  have HST := Lib.hid hST
  have HB0 := Lib.hid (show Below A w W0 from hb0.mono hA)
  have HB00 := Lib.hid hb0
  have HF := Lib.hid hF
  have HGS := Lib.hid hgS
  have HLOW := Lib.hid hlow
  have hul := h.fits.used
  have HSL := Lib.hid hco.lt
  have HXL := Lib.hid hXl
  clear hXl
  have HOK := Lib.hid ok
  have i0 : w.heap[gb]? = some (.cells #[.pointer (some ⟨g, 0, none⟩), .slice pl d.L.length cl, .int .i64 d.quota, .int .i64 d.armed, .bool d.stopped] 35 (0, 0)) := h.bo
  have j0 := fun X => ((Below.refl w.heap.size w).alloc (Nat.le_refl _) X).cell (p := ⟨gb, 1, none⟩) hgbw |>.trans h.bo.b1
  have j1 := fun X => ((Below.refl w.heap.size w).alloc (Nat.le_refl _) X).cell (p := ⟨gb, 2, none⟩) hgbw |>.trans h.bo.b2
  have j2 := fun X => ((Below.refl w.heap.size w).alloc (Nat.le_refl _) X).cell (p := ⟨gb, 3, none⟩) hgbw |>.trans h.bo.b3
  have j3 := fun X => ((Below.refl w.heap.size w).alloc (Nat.le_refl _) X).cell (p := ⟨gb, 4, none⟩) hgbw |>.trans h.bo.b4
  have m1 : ((o.do_ : Int)).tmod 12 = 6 := by rw [Int.tmod_eq_emod_of_nonneg (by omega)]; omega
  have m2 : ((o.do_ : Int)) % 12 = 6 := by omega

  have HS0 := Lib.hid hs0
  have HW0 := Lib.hid hW0
  unfold opCells at hW0 ⊢
  rw [hSN, hST] at hW0 ⊢
  clear h hv hvb hvk hvk1 hvk2 hvk3 hvk4 hco hb0 hc0 hbo0 hfi0 hvb0 hvk0 hSN hST hF hgS hlow ok hs0 ho0 hn0 i0 e1 e2 e3 e4 e5 e6
  go_enter Try.func12, Try.ntmps12
  go_wp2_with fail
  clear hW0
  have hsl := HSL.out
  have hs0 := HS0.out
  obtain ⟨wd, hwd⟩ : ∃ wd, W0.drew = wd := ⟨_, rfl⟩
  have hbd : Below W0.heap.size W0 wd := by rw [← hwd]; exact (Below.refl _ _).drew
  have hsd : wd.heap.size = W0.heap.size := by rw [← hwd]; rfl
  refine RK.begin_ (T := fun k => ¬ S k) [(0, true), (1, true), (2, true), (3, true), (4, true), (5, true), (6, false), (7, true)] (by kernel_rfl) (by kernel_rfl) rfl (by kernel_rfl) (fun _ _ d _ _ h => by cases d <;> exact h) ?_
  simp only [RK.ordered, List.map_cons, List.map_nil, List.getElem?_toArray, List.getElem?_cons_succ, List.getElem?_cons_zero]
  rw [hwd]
  have hcod := HCO.out.below hbd
  have hbod : BothAt wd gb g (.slice pl d.L.length cl) d := (hbd.block gb HBO.out.lt).trans HBO.out
  have HBD := Lib.hid hbod
  have hfid : FilesIn (XS X S gb (w.heap.size + 1)) wd.heap.size wd (.slice pl d.L.length cl) d.L := (HFI.out.below hbd).mono hbd.size
  have HCD := Lib.hid hcod
  have HFD := Lib.hid hfid
  have hgw : ¬ S w.heap.size := fun q => by have := hsl _ q; omega
  have hgn : ¬ S (w.heap.size + 1) := fun q => by have := hsl _ q; omega
  have hws : w.heap.size < wd.heap.size := by omega
  have b0 := fun W (hW : Kep (fun k => ¬ S k) wd W) => (show W.cell? ⟨gb, 0, none⟩ = some (.pointer (some ⟨g, 0, none⟩)) from (hW.cell HBD.out.lt HGS.out 0).trans HBD.out.b0)
  have r1 := fun W (hW : Kep (fun k => ¬ S k) wd W) => (show W.cell? ⟨w.heap.size, 1, none⟩ = some (.string SN) from (hW.cell hws hgw 1).trans ((hbd.cell (p := ⟨w.heap.size, 1, none⟩) (by show w.heap.size < _; omega)).trans E1.out))
  have HSDD := Lib.hid hsd
  clear hwd hcod hbod hfid hsd hs0 hsl
  repeat (refine RK.take (by rfl) (by intro W hW; go_simp; with_reducible rfl) ?_; simp only [Act.put, List.setIfInBounds_toArray, List.set_cons_zero, List.set_cons_succ])
  clear b0 r1
  have hcall := cremove_any S g mb V c d o.name wd HCD.out HF.out (by omega)
  rw [hR, HSN.out] at hcall
  refine RK.alone (by rfl) (fun K hK => ?_)
  go_simp
  refine hcall.mono ?_
  rintro e w1 ⟨rfl, S1, V1, c1, hco1, hx1⟩
  go_simp
  refine hK.out _ _ hx1.kep ?_
  clear hK K hcall
  repeat (refine RK.take (by rfl) (by intro W hW; go_simp; with_reducible rfl) ?_; simp only [Act.put, List.setIfInBounds_toArray, List.set_cons_zero, List.set_cons_succ])
  refine RK.done ?_
  have hsd := HSDD.out
  have hs0 := HS0.out
  obtain ⟨hbo1, hfi1, hgS1⟩ := Sim.ext (A := A) HBD.out HFD.out HGS.out hx1
  have hk1 := hx1.kep
  have hs1 := hk1.size
  have hnS1 : ¬ S1 (w.heap.size + 1) := fun q => (hx1.new _ q).elim hgn (fun q => by omega)
  obtain ⟨hlow1, hbA1⟩ := low_ext hx1 HLOW.out (by omega : A ≤ wd.heap.size)
  have hbw1 : Below A w w1 := (HB0.out.trans (hbd.mono (by omega))).trans hbA1
  have hn1 : BoxAt w1 (w.heap.size + 1) (.slice pl d.L.length cl) d := (hk1.block _ (by omega) hgn).trans ((hbd.block _ HN.out.lt).trans HN.out)
  have hfi1 : FilesIn (XS X S1 gb (w.heap.size + 1)) w1.heap.size w1 (.slice pl d.L.length cl) d.L := hfi1.mono hs1
  have HE1 := Lib.hid (show w1.cell? ⟨w.heap.size, 1, none⟩ = some (.string SN) from (hk1.cell hws hgw 1).trans ((hbd.cell (p := ⟨w.heap.size, 1, none⟩) (by show w.heap.size < _; omega)).trans E1.out))
  have HBO1 := Lib.hid hbo1
  have HFI1 := Lib.hid hfi1
  have HCO1 := Lib.hid hco1
  have HN1 := Lib.hid hn1
  have HGS1 := Lib.hid hgS1
  have HNS1 := Lib.hid hnS1
  have HLOW1 := Lib.hid hlow1
  have HBW1 := Lib.hid hbw1
  have HS1 := Lib.hid hs1
  have HNE := Lib.hid (show ∀ k, S1 k → S k ∨ w.heap.size ≤ k from fun k hk => (hx1.new k hk).imp id fun q => by omega)
  have KEP1 := Lib.hid (((kep_below (fun k => ¬ S k) HB00.out).trans (kep_below _ hbd)).trans hk1)
  have HVB1 := Lib.hid (BIn.below HVB.out ((hbd.mono (by omega)).trans hbA1))
  have HVK1 := Lib.hid (RowIn.below HVK.out ((hbd.mono (by omega)).trans hbA1))
  clear hbd hbo1 hfi1 hco1 hn1 hgS1 hnS1 hlow1 hbw1 hbA1 hx1 hk1 hgn hgw hws hsd hs0 hs1
  go_wp2_with fail
  obtain ⟨wq, hwq⟩ : ∃ wd, w1.drew = wd := ⟨_, rfl⟩
  have hbq : Below w1.heap.size w1 wq := by rw [← hwq]; exact (Below.refl _ _).drew
  have hsq : wq.heap.size = w1.heap.size := by rw [← hwq]; rfl
  refine RK.begin_ (T := fun k => k ≠ w.heap.size + 1) [(0, true), (1, true), (2, true), (3, true), (4, true), (5, true), (6, false), (7, true), (8, true), (9, true), (10, false), (11, true)] (by kernel_rfl) (by kernel_rfl) rfl (by kernel_rfl) (fun _ _ d _ _ h => by cases d <;> exact h) ?_
  simp only [RK.ordered, List.map_cons, List.map_nil, List.getElem?_toArray, List.getElem?_cons_succ, List.getElem?_cons_zero]
  rw [hwq]
  have hbo2 : BothAt wq gb g (.slice pl d.L.length cl) d := (hbq.block gb HBO1.out.lt).trans HBO1.out
  have HBO2 := Lib.hid hbo2
  have hws : w.heap.size < w1.heap.size := by have := HS1.out; have := HSDD.out; have := HS0.out; omega
  have hgn : gb ≠ w.heap.size + 1 := by omega
  have b1 := fun W (hW : Kep (fun k => k ≠ w.heap.size + 1) wq W) => (show W.cell? ⟨gb, 1, none⟩ = _ from (hW.cell HBO2.out.lt hgn 1).trans HBO2.out.b1)
  have b2 := fun W (hW : Kep (fun k => k ≠ w.heap.size + 1) wq W) => (show W.cell? ⟨gb, 2, none⟩ = _ from (hW.cell HBO2.out.lt hgn 2).trans HBO2.out.b2)
  have b3 := fun W (hW : Kep (fun k => k ≠ w.heap.size + 1) wq W) => (show W.cell? ⟨gb, 3, none⟩ = _ from (hW.cell HBO2.out.lt hgn 3).trans HBO2.out.b3)
  have b4 := fun W (hW : Kep (fun k => k ≠ w.heap.size + 1) wq W) => (show W.cell? ⟨gb, 4, none⟩ = _ from (hW.cell HBO2.out.lt hgn 4).trans HBO2.out.b4)
  have r1 := fun W (hW : Kep (fun k => k ≠ w.heap.size + 1) wq W) => (show W.cell? ⟨w.heap.size, 1, none⟩ = some (.string SN) from (hW.cell (by omega) (by omega) 1).trans ((hbq.cell (p := ⟨w.heap.size, 1, none⟩) hws).trans HE1.out))
  clear hwq hbo2
  repeat (refine RK.take (by rfl) (by intro W hW; go_simp; with_reducible rfl) ?_; simp only [Act.put, List.setIfInBounds_toArray, List.set_cons_zero, List.set_cons_succ])
  clear b1 b2 b3 b4 r1
  have hcoq := HCO1.out.below hbq
  have hfiq : FilesIn (XS X S1 gb (w.heap.size + 1)) wq.heap.size wq (.slice pl d.L.length cl) d.L := (HFI1.out.below hbq).mono hbq.size
  have hXq : ∀ k, XS X S1 gb (w.heap.size + 1) k → k < wq.heap.size := fun k hk => by
    rcases hk with hk | hk | hk | hk
    · exact hcoq.lt k hk
    · omega
    · have := HN1.out.lt; omega
    · have := HXL.out k hk; omega
  have hll : d.L.length ≤ 1000000 := by have := HF.out.len; omega
  have hnn : ∀ g ∈ d.L, g.name.length ≤ 1000000000 := fun x hx => by have := HF.out.name x hx; omega
  have hbb : ∀ g ∈ d.L, g.b.length ≤ 1000000000 := fun x hx => by have := HF.out.bytes x hx; omega
  have hcall := rremove_any wq.heap.size (.slice pl d.L.length cl) d o.name wq hfiq (Nat.le_refl _) hll (by omega) harm.1 harm.2 hXq
  rw [hR, HSN.out] at hcall
  clear hR

  refine RK.alone (by rfl) (fun K hK => ?_)
  go_simp
  refine hcall.mono ?_
  rintro e w2 ⟨v2, rfl, ⟨L2, rfl, hfi2⟩, hb2⟩
  go_simp
  refine hK.out _ _ (kep_below _ hb2) ?_
  clear hK K hcall
  repeat (refine RK.take (by rfl) (by intro W hW; go_simp; with_reducible rfl) ?_; simp only [Act.put, List.setIfInBounds_toArray, List.set_cons_zero, List.set_cons_succ])
  obtain ⟨p2, c2, rfl, _, _⟩ := hfi2.shape
  have hn2 := (HN1.out.below hbq HN1.out.lt).below hb2 (HN1.out.below hbq HN1.out.lt).lt
  have hbo2 : BothAt w2 gb g (.slice pl d.L.length cl) d := (hb2.block gb HBO2.out.lt).trans HBO2.out
  have hco2 := hcoq.below hb2
  obtain ⟨z1, z2, z3, z4⟩ := sim_end (A := A) hco2 hbo2 hn2 hfi2 HGS1.out HNS1.out hgn HLOW1.out hgA (by omega) hfr
  refine RK.alone (by rfl) (fun K hK => ?_)
  refine wp_store_mid 29 _ _ rfl (w.heap.size + 1) 0 #[.slice p2 R.1.L.length c2, .int .i64 R.1.quota, .int .i64 R.1.armed, .bool R.1.stopped] rfl rfl ?_ (by kernel_rfl) ?_ ?_
  · intro j hj
    rw [Nat.zero_add, hn2.free j]
    refine ⟨?_, rfl⟩
    match j, hj with
    | 0, _ => rw [hn2.files]; rfl
    | 1, _ => rw [hn2.quota]; rfl
    | 2, _ => rw [hn2.armed]; rfl
    | 3, _ => rw [hn2.stopped]; rfl
  · refine all_oneCell_toArray (cs := [_, _, _, _]) ?_
    intro v hv
    simp only [List.mem_cons, List.not_mem_nil, or_false] at hv
    rcases hv with rfl | rfl | rfl | rfl <;> rfl
  refine hK.out _ _ (box_kep w2 (w.heap.size + 1) (.slice p2 R.1.L.length c2) R.1) ?_
  clear hK K
  repeat (refine RK.take (by rfl) (by intro W hW; go_simp; with_reducible rfl) ?_; simp only [Act.put, List.setIfInBounds_toArray, List.set_cons_zero, List.set_cons_succ])
  refine RK.done ?_
  obtain ⟨W3, hW3⟩ : ∃ W, putBox w2 (w.heap.size + 1) (.slice p2 R.1.L.length c2) R.1 = W := ⟨_, rfl⟩
  have hW3' : w2.setCells (w.heap.size + 1) 0 (#[.slice p2 R.1.L.length c2, .int .i64 R.1.quota, .int .i64 R.1.armed, .bool R.1.stopped] : Array Value).toList = W3 := hW3
  have kend := kep_end (gb := gb) (nb := w.heap.size + 1) (L := .slice p2 R.1.L.length c2) (r := R.1) KEP1.out hbq hb2 (by omega)
  rw [hW3] at z1 z2 z3 z4 kend
  rw [hW3']
  have HFIN := Lib.hid (show StepC X A S gb R.1 w (.returned (.bool true)) (putBoth W3 gb (.slice p2 R.1.L.length c2) R.1) from ⟨rfl, S1, g, _, z3, (HBW1.out.trans (hbq.mono (Nat.le_trans hA (Nat.le_of_lt hws)))).trans ((hb2.mono (by omega)).trans z4), kend, HNE.out⟩)
  clear kend
  unfold putBoth at HFIN
  have y0 := z1.files
  have y1 := z1.quota
  have y2 := z1.armed
  have y3 := z1.stopped
  have x1 := z2.b1
  have x2 := z2.b2
  have x3 := z2.b3
  have x4 := z2.b4
  have xf := fun k => z2.free k
  clear z1 z2 z3 z4 hW3 hW3' hn2 hbo2 hco2 hb2 hfi2 hbq hcoq hfiq hXq hll hnn hbb hfr hsq
  try simp only [Act.put]
  go_wp2_with fail
  go_ret
  exact HFIN.out
end Go.Proofs.Ytljfpolcgegkpaa.DK

/-
  An op done on both disks: Append. Conditions: names and bytes as short leaves them; what the op holds lies below block A.
-/
namespace Go.Proofs.Ytljfpolcgegkpaa.DK
open Go.RowKit Go.Proofs.Ytljfpolcgegkpaa.MM Go.Maps
variable {X : Nat → Prop}

set_option maxRecDepth 100000 in
set_option maxHeartbeats 2000000 in
theorem step_append (A gb g : Nat) (S : Nat → Prop) (L : Value) (d : DiskD) (v : Value) (o : OpD) (w : World) (h : Sim X A S w gb g L d) (hv : OpIn A w v o) (hA : A ≤ w.heap.size) (hnl : o.name.length ≤ 70) (htl : o.to_.length ≤ 70) (hbl : o.b.length ≤ 100) (hkl : o.keep.length ≤ 10) (hXl : ∀ k, X k → k < w.heap.size) (hm : o.do_ % 12 < 4) :
    Calls Try.prog 12 #[.pointer (some ⟨gb, 0, none⟩), v] w (StepC X A S gb (appendD d o.name o.b).1 w) := by
  obtain ⟨R, hR⟩ : ∃ R, appendD d o.name o.b = R := ⟨_, rfl⟩
  have hfr : Fits R.1 := hR ▸ append_fits _ _ h.fits
  rw [hR]
  obtain ⟨mb, V, c, hco⟩ := h.co
  obtain ⟨vb, vk, rfl, hvb, hvk⟩ := hv.val
  obtain ⟨pb, cb, rfl, _, _⟩ := hvb.shape
  obtain ⟨pk, ck, hvk', hvk1, hvk2, hvk3, hvk4⟩ := id hvk
  rw [List.length_map] at hvk'
  subst hvk'
  obtain ⟨pl, cl, rfl, hlc, hcm⟩ := h.fi.shape
  obtain ⟨W0, hW0⟩ : ∃ W, (w.alloc (.cells (opCells o (.slice pb o.b.length cb) (.slice pk o.keep.length ck)) 39)).alloc (.cells #[.slice pl d.L.length cl, .int .i64 d.quota, .int .i64 d.armed, .bool d.stopped] 29) = W := ⟨_, rfl⟩
  have hb0 : Below w.heap.size w W0 := by rw [← hW0]; exact ((Below.refl _ _).alloc (Nat.le_refl _) _).alloc (by simp) _
  have hs0 : W0.heap.size = w.heap.size + 2 := by rw [← hW0]; simp
  have ho0 : W0.heap[w.heap.size]? = some (.cells (opCells o (.slice pb o.b.length cb) (.slice pk o.keep.length ck)) 39 (0, 0)) := by
    rw [← hW0]
    have h1 := heap_alloc_new w (.cells (opCells o (.slice pb o.b.length cb) (.slice pk o.keep.length ck)) 39)
    exact (((Below.refl _ _).alloc (Nat.le_refl _) _).block w.heap.size (by simp)).trans h1
  have hn0 : BoxAt W0 (w.heap.size + 1) (.slice pl d.L.length cl) d := by rw [← hW0]; exact two_new' w _ d
  have hgbw := h.bo.lt
  have hgS := h.gbS
  have hlow := h.low
  have hgA := h.gbA
  have hF := h.fits
  have harm := hco.arm1
  have hc0 := hco.below hb0
  have hbo0 : BothAt W0 gb g (.slice pl d.L.length cl) d := (hb0.block gb hgbw).trans h.bo
  have hfi0 : FilesIn (XS X S gb (w.heap.size + 1)) W0.heap.size W0 (.slice pl d.L.length cl) d.L := ((h.fi.below hb0).weak fun b hb hx => by
    rcases hx with hx | hx | hx | hx
    · exact .inl hx
    · exact .inr (.inl hx)
    · exact absurd hx (by omega)
    · exact .inr (.inr (.inr hx))).mono hb0.size
  have hA0 : A ≤ W0.heap.size := by omega
  have hvb0 := hvb.below (hb0.mono hA)
  have hvk0 := RowIn.below hvk (hb0.mono hA)
  have od := hv.d
  have oa0 := hv.a0
  have oa1 := hv.a1
  have on0 := hv.n0
  have on1 := hv.n1
  have ok := hv.k
  obtain ⟨SN, hSN⟩ : ∃ s : ByteArray, (⟨o.name.toArray⟩ : ByteArray) = s := ⟨_, rfl⟩
  obtain ⟨ST, hST⟩ : ∃ s : ByteArray, (⟨o.to_.toArray⟩ : ByteArray) = s := ⟨_, rfl⟩
  have e0 : W0.cell? ⟨w.heap.size, 0, none⟩ = some (.int .u8 (o.do_ : Int)) := by rw [cell_of_row _ _ 0 _ _ _ ho0]; rfl
  have e1 : W0.cell? ⟨w.heap.size, 1, none⟩ = some (.string SN) := by rw [cell_of_row _ _ 1 _ _ _ ho0, ← hSN]; rfl
  have e2 : W0.cell? ⟨w.heap.size, 2, none⟩ = some (.string ST) := by rw [cell_of_row _ _ 2 _ _ _ ho0, ← hST]; rfl
  have e3 : W0.cell? ⟨w.heap.size, 3, none⟩ = some (.slice pb o.b.length cb) := by rw [cell_of_row _ _ 3 _ _ _ ho0]; rfl
  have e4 : W0.cell? ⟨w.heap.size, 4, none⟩ = some (.int .i64 o.a) := by rw [cell_of_row _ _ 4 _ _ _ ho0]; rfl
  have e5 : W0.cell? ⟨w.heap.size, 5, none⟩ = some (.int .i64 o.n) := by rw [cell_of_row _ _ 5 _ _ _ ho0]; rfl
  have e6 : W0.cell? ⟨w.heap.size, 6, none⟩ = some (.slice pk o.keep.length ck) := by rw [cell_of_row _ _ 6 _ _ _ ho0]; rfl
  have E1 := Lib.hid e1
  have E2 := Lib.hid e2
  have E3 := Lib.hid e3
  have E4 := Lib.hid e4
  have E5 := Lib.hid e5
  have E6 := Lib.hid e6
  have HCO := Lib.hid hc0
  have HBO := Lib.hid hbo0
  have HFI := Lib.hid hfi0
  have HN := Lib.hid hn0
  have HVB := Lib.hid hvb0
  have HVK := Lib.hid hvk0
  have HSN := Lib.hid hSN
  have HST := Lib.hid hST
  have HB0 := Lib.hid (show Below A w W0 from hb0.mono hA)
  have HB00 := Lib.hid hb0
  have HF := Lib.hid hF
  have HGS := Lib.hid hgS
  have HLOW := Lib.hid hlow
  have hul := h.fits.used
  have HSL := Lib.hid hco.lt
  have HXL := Lib.hid hXl
  clear hXl
  have HOK := Lib.hid ok
  have i0 : w.heap[gb]? = some (.cells #[.pointer (some ⟨g, 0, none⟩), .slice pl d.L.length cl, .int .i64 d.quota, .int .i64 d.armed, .bool d.stopped] 35 (0, 0)) := h.bo
  have j0 := fun X => ((Below.refl w.heap.size w).alloc (Nat.le_refl _) X).cell (p := ⟨gb, 1, none⟩) hgbw |>.trans h.bo.b1
  have j1 := fun X => ((Below.refl w.heap.size w).alloc (Nat.le_refl _) X).cell (p := ⟨gb, 2, none⟩) hgbw |>.trans h.bo.b2
  have j2 := fun X => ((Below.refl w.heap.size w).alloc (Nat.le_refl _) X).cell (p := ⟨gb, 3, none⟩) hgbw |>.trans h.bo.b3
  have j3 := fun X => ((Below.refl w.heap.size w).alloc (Nat.le_refl _) X).cell (p := ⟨gb, 4, none⟩) hgbw |>.trans h.bo.b4
  obtain ⟨mm, hmm⟩ : ∃ m, o.do_ % 12 = m := ⟨_, rfl⟩
  rw [hmm] at hm
  have m1 : ((o.do_ : Int)).tmod 12 = (mm : Int) := by rw [Int.tmod_eq_emod_of_nonneg (by omega)]; omega
  have t4 : ((mm : Int) == 4) = false := by rw [beq_eq_false_iff_ne]; omega
  have t5 : ((mm : Int) == 5) = false := by rw [beq_eq_false_iff_ne]; omega
  have t6 : ((mm : Int) == 6) = false := by rw [beq_eq_false_iff_ne]; omega
  have t7 : ((mm : Int) == 7) = false := by rw [beq_eq_false_iff_ne]; omega
  have t8 : ((mm : Int) == 8) = false := by rw [beq_eq_false_iff_ne]; omega
  have t9 : ((mm : Int) == 9) = false := by rw [beq_eq_false_iff_ne]; omega
  have t10 : ((mm : Int) == 10) = false := by rw [beq_eq_false_iff_ne]; omega
  have t11 : ((mm : Int) == 11) = false := by rw [beq_eq_false_iff_ne]; omega
  clear hmm

  have HS0 := Lib.hid hs0
  have HW0 := Lib.hid hW0
  unfold opCells at hW0 ⊢
  rw [hSN, hST] at hW0 ⊢
  clear h hv hvb hvk hvk1 hvk2 hvk3 hvk4 hco hb0 hc0 hbo0 hfi0 hvb0 hvk0 hSN hST hF hgS hlow ok hs0 ho0 hn0 i0 e1 e2 e3 e4 e5 e6
  go_enter Try.func12, Try.ntmps12
  go_wp2_with fail
  clear hW0
  have hsl := HSL.out
  have hs0 := HS0.out
  obtain ⟨wd, hwd⟩ : ∃ wd, W0.drew = wd := ⟨_, rfl⟩
  have hbd : Below W0.heap.size W0 wd := by rw [← hwd]; exact (Below.refl _ _).drew
  have hsd : wd.heap.size = W0.heap.size := by rw [← hwd]; rfl
  refine RK.begin_ (T := fun k => ¬ S k) [(0, true), (1, true), (2, true), (3, true), (4, true), (5, true), (6, true), (7, true), (8, false), (9, true)] (by kernel_rfl) (by kernel_rfl) rfl (by kernel_rfl) (fun _ _ d _ _ h => by cases d <;> exact h) ?_
  simp only [RK.ordered, List.map_cons, List.map_nil, List.getElem?_toArray, List.getElem?_cons_succ, List.getElem?_cons_zero]
  rw [hwd]
  have hcod := HCO.out.below hbd
  have hbod : BothAt wd gb g (.slice pl d.L.length cl) d := (hbd.block gb HBO.out.lt).trans HBO.out
  have HBD := Lib.hid hbod
  have hfid : FilesIn (XS X S gb (w.heap.size + 1)) wd.heap.size wd (.slice pl d.L.length cl) d.L := (HFI.out.below hbd).mono hbd.size
  have HCD := Lib.hid hcod
  have HFD := Lib.hid hfid
  have hgw : ¬ S w.heap.size := fun q => by have := hsl _ q; omega
  have hgn : ¬ S (w.heap.size + 1) := fun q => by have := hsl _ q; omega
  have hws : w.heap.size < wd.heap.size := by omega
  have b0 := fun W (hW : Kep (fun k => ¬ S k) wd W) => (show W.cell? ⟨gb, 0, none⟩ = some (.pointer (some ⟨g, 0, none⟩)) from (hW.cell HBD.out.lt HGS.out 0).trans HBD.out.b0)
  have r1 := fun W (hW : Kep (fun k => ¬ S k) wd W) => (show W.cell? ⟨w.heap.size, 1, none⟩ = some (.string SN) from (hW.cell hws hgw 1).trans ((hbd.cell (p := ⟨w.heap.size, 1, none⟩) (by show w.heap.size < _; omega)).trans E1.out))
  have r3 := fun W (hW : Kep (fun k => ¬ S k) wd W) => (show W.cell? ⟨w.heap.size, 3, none⟩ = some (.slice pb o.b.length cb) from (hW.cell hws hgw 3).trans ((hbd.cell (p := ⟨w.heap.size, 3, none⟩) (by show w.heap.size < _; omega)).trans E3.out))
  have HSDD := Lib.hid hsd
  clear hwd hcod hbod hfid hsd hs0 hsl
  repeat (refine RK.take (by rfl) (by intro W hW; go_simp; with_reducible rfl) ?_; simp only [Act.put, List.setIfInBounds_toArray, List.set_cons_zero, List.set_cons_succ])
  clear b0 r1 r3
  have hcall := cappend_any S g mb V c d o.name (.slice pb o.b.length cb) o.b wd HCD.out HF.out hul (by omega) ((HVB.out.below (hbd.mono (by omega))).row (by omega)) (by omega)
  rw [hR, HSN.out] at hcall
  refine RK.alone (by rfl) (fun K hK => ?_)
  go_simp
  refine hcall.mono ?_
  rintro e w1 ⟨rfl, S1, V1, c1, hco1, hx1⟩
  go_simp
  refine hK.out _ _ hx1.kep ?_
  clear hK K hcall
  repeat (refine RK.take (by rfl) (by intro W hW; go_simp; with_reducible rfl) ?_; simp only [Act.put, List.setIfInBounds_toArray, List.set_cons_zero, List.set_cons_succ])
  refine RK.done ?_
  have hsd := HSDD.out
  have hs0 := HS0.out
  obtain ⟨hbo1, hfi1, hgS1⟩ := Sim.ext (A := A) HBD.out HFD.out HGS.out hx1
  have hk1 := hx1.kep
  have hs1 := hk1.size
  have hnS1 : ¬ S1 (w.heap.size + 1) := fun q => (hx1.new _ q).elim hgn (fun q => by omega)
  obtain ⟨hlow1, hbA1⟩ := low_ext hx1 HLOW.out (by omega : A ≤ wd.heap.size)
  have hbw1 : Below A w w1 := (HB0.out.trans (hbd.mono (by omega))).trans hbA1
  have hn1 : BoxAt w1 (w.heap.size + 1) (.slice pl d.L.length cl) d := (hk1.block _ (by omega) hgn).trans ((hbd.block _ HN.out.lt).trans HN.out)
  have hfi1 : FilesIn (XS X S1 gb (w.heap.size + 1)) w1.heap.size w1 (.slice pl d.L.length cl) d.L := hfi1.mono hs1
  have HE1 := Lib.hid (show w1.cell? ⟨w.heap.size, 1, none⟩ = some (.string SN) from (hk1.cell hws hgw 1).trans ((hbd.cell (p := ⟨w.heap.size, 1, none⟩) (by show w.heap.size < _; omega)).trans E1.out))
  have HE3 := Lib.hid (show w1.cell? ⟨w.heap.size, 3, none⟩ = some (.slice pb o.b.length cb) from (hk1.cell hws hgw 3).trans ((hbd.cell (p := ⟨w.heap.size, 3, none⟩) (by show w.heap.size < _; omega)).trans E3.out))
  have HBO1 := Lib.hid hbo1
  have HFI1 := Lib.hid hfi1
  have HCO1 := Lib.hid hco1
  have HN1 := Lib.hid hn1
  have HGS1 := Lib.hid hgS1
  have HNS1 := Lib.hid hnS1
  have HLOW1 := Lib.hid hlow1
  have HBW1 := Lib.hid hbw1
  have HS1 := Lib.hid hs1
  have HNE := Lib.hid (show ∀ k, S1 k → S k ∨ w.heap.size ≤ k from fun k hk => (hx1.new k hk).imp id fun q => by omega)
  have KEP1 := Lib.hid (((kep_below (fun k => ¬ S k) HB00.out).trans (kep_below _ hbd)).trans hk1)
  have HVB1 := Lib.hid (BIn.below HVB.out ((hbd.mono (by omega)).trans hbA1))
  have HVK1 := Lib.hid (RowIn.below HVK.out ((hbd.mono (by omega)).trans hbA1))
  clear hbd hbo1 hfi1 hco1 hn1 hgS1 hnS1 hlow1 hbw1 hbA1 hx1 hk1 hgn hgw hws hsd hs0 hs1
  go_wp2_with fail
  obtain ⟨wq, hwq⟩ : ∃ wd, w1.drew = wd := ⟨_, rfl⟩
  have hbq : Below w1.heap.size w1 wq := by rw [← hwq]; exact (Below.refl _ _).drew
  have hsq : wq.heap.size = w1.heap.size := by rw [← hwq]; rfl
  refine RK.begin_ (T := fun k => k ≠ w.heap.size + 1) [(0, true), (1, true), (2, true), (3, true), (4, true), (5, true), (6, true), (7, true), (8, false), (9, true), (10, true), (11, true), (12, false), (13, true)] (by kernel_rfl) (by kernel_rfl) rfl (by kernel_rfl) (fun _ _ d _ _ h => by cases d <;> exact h) ?_
  simp only [RK.ordered, List.map_cons, List.map_nil, List.getElem?_toArray, List.getElem?_cons_succ, List.getElem?_cons_zero]
  rw [hwq]
  have hbo2 : BothAt wq gb g (.slice pl d.L.length cl) d := (hbq.block gb HBO1.out.lt).trans HBO1.out
  have HBO2 := Lib.hid hbo2
  have hws : w.heap.size < w1.heap.size := by have := HS1.out; have := HSDD.out; have := HS0.out; omega
  have hgn : gb ≠ w.heap.size + 1 := by omega
  have b1 := fun W (hW : Kep (fun k => k ≠ w.heap.size + 1) wq W) => (show W.cell? ⟨gb, 1, none⟩ = _ from (hW.cell HBO2.out.lt hgn 1).trans HBO2.out.b1)
  have b2 := fun W (hW : Kep (fun k => k ≠ w.heap.size + 1) wq W) => (show W.cell? ⟨gb, 2, none⟩ = _ from (hW.cell HBO2.out.lt hgn 2).trans HBO2.out.b2)
  have b3 := fun W (hW : Kep (fun k => k ≠ w.heap.size + 1) wq W) => (show W.cell? ⟨gb, 3, none⟩ = _ from (hW.cell HBO2.out.lt hgn 3).trans HBO2.out.b3)
  have b4 := fun W (hW : Kep (fun k => k ≠ w.heap.size + 1) wq W) => (show W.cell? ⟨gb, 4, none⟩ = _ from (hW.cell HBO2.out.lt hgn 4).trans HBO2.out.b4)
  have r1 := fun W (hW : Kep (fun k => k ≠ w.heap.size + 1) wq W) => (show W.cell? ⟨w.heap.size, 1, none⟩ = some (.string SN) from (hW.cell (by omega) (by omega) 1).trans ((hbq.cell (p := ⟨w.heap.size, 1, none⟩) hws).trans HE1.out))
  have r3 := fun W (hW : Kep (fun k => k ≠ w.heap.size + 1) wq W) => (show W.cell? ⟨w.heap.size, 3, none⟩ = some (.slice pb o.b.length cb) from (hW.cell (by omega) (by omega) 3).trans ((hbq.cell (p := ⟨w.heap.size, 3, none⟩) hws).trans HE3.out))
  clear hwq hbo2
  repeat (refine RK.take (by rfl) (by intro W hW; go_simp; with_reducible rfl) ?_; simp only [Act.put, List.setIfInBounds_toArray, List.set_cons_zero, List.set_cons_succ])
  clear b1 b2 b3 b4 r1 r3
  have hcoq := HCO1.out.below hbq
  have hfiq : FilesIn (XS X S1 gb (w.heap.size + 1)) wq.heap.size wq (.slice pl d.L.length cl) d.L := (HFI1.out.below hbq).mono hbq.size
  have hXq : ∀ k, XS X S1 gb (w.heap.size + 1) k → k < wq.heap.size := fun k hk => by
    rcases hk with hk | hk | hk | hk
    · exact hcoq.lt k hk
    · omega
    · have := HN1.out.lt; omega
    · have := HXL.out k hk; omega
  have hll : d.L.length ≤ 1000000 := by have := HF.out.len; omega
  have hnn : ∀ g ∈ d.L, g.name.length ≤ 1000000000 := fun x hx => by have := HF.out.name x hx; omega
  have hbb : ∀ g ∈ d.L, g.b.length ≤ 1000000000 := fun x hx => by have := HF.out.bytes x hx; omega
  have hcall := rappend_any wq.heap.size (.slice pl d.L.length cl) d o.name wq hfiq (Nat.le_refl _) hll (by omega) (.slice pb o.b.length cb) o.b ((HVB1.out.below (hbq.mono (Nat.le_trans hA (Nat.le_of_lt hws)))).mono (by omega)) (by omega) hnn hbb hul HF.out.q1 harm.1 harm.2 hXq
  rw [hR, HSN.out] at hcall
  clear hR

  refine RK.alone (by rfl) (fun K hK => ?_)
  go_simp
  refine hcall.mono ?_
  rintro e w2 ⟨v2, rfl, ⟨L2, rfl, hfi2⟩, hb2⟩
  go_simp
  refine hK.out _ _ (kep_below _ hb2) ?_
  clear hK K hcall
  repeat (refine RK.take (by rfl) (by intro W hW; go_simp; with_reducible rfl) ?_; simp only [Act.put, List.setIfInBounds_toArray, List.set_cons_zero, List.set_cons_succ])
  obtain ⟨p2, c2, rfl, _, _⟩ := hfi2.shape
  have hn2 := (HN1.out.below hbq HN1.out.lt).below hb2 (HN1.out.below hbq HN1.out.lt).lt
  have hbo2 : BothAt w2 gb g (.slice pl d.L.length cl) d := (hb2.block gb HBO2.out.lt).trans HBO2.out
  have hco2 := hcoq.below hb2
  obtain ⟨z1, z2, z3, z4⟩ := sim_end (A := A) hco2 hbo2 hn2 hfi2 HGS1.out HNS1.out hgn HLOW1.out hgA (by omega) hfr
  refine RK.alone (by rfl) (fun K hK => ?_)
  refine wp_store_mid 29 _ _ rfl (w.heap.size + 1) 0 #[.slice p2 R.1.L.length c2, .int .i64 R.1.quota, .int .i64 R.1.armed, .bool R.1.stopped] rfl rfl ?_ (by kernel_rfl) ?_ ?_
  · intro j hj
    rw [Nat.zero_add, hn2.free j]
    refine ⟨?_, rfl⟩
    match j, hj with
    | 0, _ => rw [hn2.files]; rfl
    | 1, _ => rw [hn2.quota]; rfl
    | 2, _ => rw [hn2.armed]; rfl
    | 3, _ => rw [hn2.stopped]; rfl
  · refine all_oneCell_toArray (cs := [_, _, _, _]) ?_
    intro v hv
    simp only [List.mem_cons, List.not_mem_nil, or_false] at hv
    rcases hv with rfl | rfl | rfl | rfl <;> rfl
  refine hK.out _ _ (box_kep w2 (w.heap.size + 1) (.slice p2 R.1.L.length c2) R.1) ?_
  clear hK K
  repeat (refine RK.take (by rfl) (by intro W hW; go_simp; with_reducible rfl) ?_; simp only [Act.put, List.setIfInBounds_toArray, List.set_cons_zero, List.set_cons_succ])
  refine RK.done ?_
  obtain ⟨W3, hW3⟩ : ∃ W, putBox w2 (w.heap.size + 1) (.slice p2 R.1.L.length c2) R.1 = W := ⟨_, rfl⟩
  have hW3' : w2.setCells (w.heap.size + 1) 0 (#[.slice p2 R.1.L.length c2, .int .i64 R.1.quota, .int .i64 R.1.armed, .bool R.1.stopped] : Array Value).toList = W3 := hW3
  have kend := kep_end (gb := gb) (nb := w.heap.size + 1) (L := .slice p2 R.1.L.length c2) (r := R.1) KEP1.out hbq hb2 (by omega)
  rw [hW3] at z1 z2 z3 z4 kend
  rw [hW3']
  have HFIN := Lib.hid (show StepC X A S gb R.1 w (.returned (.bool true)) (putBoth W3 gb (.slice p2 R.1.L.length c2) R.1) from ⟨rfl, S1, g, _, z3, (HBW1.out.trans (hbq.mono (Nat.le_trans hA (Nat.le_of_lt hws)))).trans ((hb2.mono (by omega)).trans z4), kend, HNE.out⟩)
  clear kend
  unfold putBoth at HFIN
  have y0 := z1.files
  have y1 := z1.quota
  have y2 := z1.armed
  have y3 := z1.stopped
  have x1 := z2.b1
  have x2 := z2.b2
  have x3 := z2.b3
  have x4 := z2.b4
  have xf := fun k => z2.free k
  clear z1 z2 z3 z4 hW3 hW3' hn2 hbo2 hco2 hb2 hfi2 hbq hcoq hfiq hXq hll hnn hbb hfr hsq
  try simp only [Act.put]
  go_wp2_with fail
  go_ret
  exact HFIN.out
end Go.Proofs.Ytljfpolcgegkpaa.DK

/-
  An op done on both disks: Arm. Conditions: names and bytes as short leaves them; what the op holds lies below block A.
-/
namespace Go.Proofs.Ytljfpolcgegkpaa.DK
open Go.RowKit Go.Proofs.Ytljfpolcgegkpaa.MM Go.Maps
variable {X : Nat → Prop}

set_option maxRecDepth 100000 in
set_option maxHeartbeats 2000000 in
theorem step_arm (A gb g : Nat) (S : Nat → Prop) (L : Value) (d : DiskD) (v : Value) (o : OpD) (w : World) (h : Sim X A S w gb g L d) (hv : OpIn A w v o) (hA : A ≤ w.heap.size) (hnl : o.name.length ≤ 70) (htl : o.to_.length ≤ 70) (hbl : o.b.length ≤ 100) (hkl : o.keep.length ≤ 10) (hXl : ∀ k, X k → k < w.heap.size) (hm : o.do_ % 12 = 8) :
    Calls Try.prog 12 #[.pointer (some ⟨gb, 0, none⟩), v] w (StepC X A S gb (armD d o.a) w) := by
  obtain ⟨R, hR⟩ : ∃ R : DiskD × Int, (armD d o.a, 0) = R := ⟨_, rfl⟩
  have hR1 : armD d o.a = R.1 := by rw [← hR]
  have hfr : Fits R.1 := hR1 ▸ arm_fits _ h.fits
  rw [hR1]
  obtain ⟨mb, V, c, hco⟩ := h.co
  obtain ⟨vb, vk, rfl, hvb, hvk⟩ := hv.val
  obtain ⟨pb, cb, rfl, _, _⟩ := hvb.shape
  obtain ⟨pk, ck, hvk', hvk1, hvk2, hvk3, hvk4⟩ := id hvk
  rw [List.length_map] at hvk'
  subst hvk'
  obtain ⟨pl, cl, rfl, hlc, hcm⟩ := h.fi.shape
  obtain ⟨W0, hW0⟩ : ∃ W, (w.alloc (.cells (opCells o (.slice pb o.b.length cb) (.slice pk o.keep.length ck)) 39)).alloc (.cells #[.slice pl d.L.length cl, .int .i64 d.quota, .int .i64 d.armed, .bool d.stopped] 29) = W := ⟨_, rfl⟩
  have hb0 : Below w.heap.size w W0 := by rw [← hW0]; exact ((Below.refl _ _).alloc (Nat.le_refl _) _).alloc (by simp) _
  have hs0 : W0.heap.size = w.heap.size + 2 := by rw [← hW0]; simp
  have ho0 : W0.heap[w.heap.size]? = some (.cells (opCells o (.slice pb o.b.length cb) (.slice pk o.keep.length ck)) 39 (0, 0)) := by
    rw [← hW0]
    have h1 := heap_alloc_new w (.cells (opCells o (.slice pb o.b.length cb) (.slice pk o.keep.length ck)) 39)
    exact (((Below.refl _ _).alloc (Nat.le_refl _) _).block w.heap.size (by simp)).trans h1
  have hn0 : BoxAt W0 (w.heap.size + 1) (.slice pl d.L.length cl) d := by rw [← hW0]; exact two_new' w _ d
  have hgbw := h.bo.lt
  have hgS := h.gbS
  have hlow := h.low
  have hgA := h.gbA
  have hF := h.fits
  have harm := hco.arm1
  have hc0 := hco.below hb0
  have hbo0 : BothAt W0 gb g (.slice pl d.L.length cl) d := (hb0.block gb hgbw).trans h.bo
  have hfi0 : FilesIn (XS X S gb (w.heap.size + 1)) W0.heap.size W0 (.slice pl d.L.length cl) d.L := ((h.fi.below hb0).weak fun b hb hx => by
    rcases hx with hx | hx | hx | hx
    · exact .inl hx
    · exact .inr (.inl hx)
    · exact absurd hx (by omega)
    · exact .inr (.inr (.inr hx))).mono hb0.size
  have hA0 : A ≤ W0.heap.size := by omega
  have hvb0 := hvb.below (hb0.mono hA)
  have hvk0 := RowIn.below hvk (hb0.mono hA)
  have od := hv.d
  have oa0 := hv.a0
  have oa1 := hv.a1
  have on0 := hv.n0
  have on1 := hv.n1
  have ok := hv.k
  obtain ⟨SN, hSN⟩ : ∃ s : ByteArray, (⟨o.name.toArray⟩ : ByteArray) = s := ⟨_, rfl⟩
  obtain ⟨ST, hST⟩ : ∃ s : ByteArray, (⟨o.to_.toArray⟩ : ByteArray) = s := ⟨_, rfl⟩
  have e0 : W0.cell? ⟨w.heap.size, 0, none⟩ = some (.int .u8 (o.do_ : Int)) := by rw [cell_of_row _ _ 0 _ _ _ ho0]; rfl
  have e1 : W0.cell? ⟨w.heap.size, 1, none⟩ = some (.string SN) := by rw [cell_of_row _ _ 1 _ _ _ ho0, ← hSN]; rfl
  have e2 : W0.cell? ⟨w.heap.size, 2, none⟩ = some (.string ST) := by rw [cell_of_row _ _ 2 _ _ _ ho0, ← hST]; rfl
  have e3 : W0.cell? ⟨w.heap.size, 3, none⟩ = some (.slice pb o.b.length cb) := by rw [cell_of_row _ _ 3 _ _ _ ho0]; rfl
  have e4 : W0.cell? ⟨w.heap.size, 4, none⟩ = some (.int .i64 o.a) := by rw [cell_of_row _ _ 4 _ _ _ ho0]; rfl
  have e5 : W0.cell? ⟨w.heap.size, 5, none⟩ = some (.int .i64 o.n) := by rw [cell_of_row _ _ 5 _ _ _ ho0]; rfl
  have e6 : W0.cell? ⟨w.heap.size, 6, none⟩ = some (.slice pk o.keep.length ck) := by rw [cell_of_row _ _ 6 _ _ _ ho0]; rfl
  have E1 := Lib.hid e1
  have E2 := Lib.hid e2
  have E3 := Lib.hid e3
  have E4 := Lib.hid e4
  have E5 := Lib.hid e5
  have E6 := Lib.hid e6
  have HCO := Lib.hid hc0
  have HBO := Lib.hid hbo0
  have HFI := Lib.hid hfi0
  have HN := Lib.hid hn0
  have HVB := Lib.hid hvb0
  have HVK := Lib.hid hvk0
  have HSN := Lib.hid hSN
  have HST := Lib.hid hST
  have HB0 := Lib.hid (show Below A w W0 from hb0.mono hA)
  have HB00 := Lib.hid hb0
  have HF := Lib.hid hF
  have HGS := Lib.hid hgS
  have HLOW := Lib.hid hlow
  have hul := h.fits.used
  have HSL := Lib.hid hco.lt
  have HXL := Lib.hid hXl
  clear hXl
  have HOK := Lib.hid ok
  have i0 : w.heap[gb]? = some (.cells #[.pointer (some ⟨g, 0, none⟩), .slice pl d.L.length cl, .int .i64 d.quota, .int .i64 d.armed, .bool d.stopped] 35 (0, 0)) := h.bo
  have j0 := fun X => ((Below.refl w.heap.size w).alloc (Nat.le_refl _) X).cell (p := ⟨gb, 1, none⟩) hgbw |>.trans h.bo.b1
  have j1 := fun X => ((Below.refl w.heap.size w).alloc (Nat.le_refl _) X).cell (p := ⟨gb, 2, none⟩) hgbw |>.trans h.bo.b2
  have j2 := fun X => ((Below.refl w.heap.size w).alloc (Nat.le_refl _) X).cell (p := ⟨gb, 3, none⟩) hgbw |>.trans h.bo.b3
  have j3 := fun X => ((Below.refl w.heap.size w).alloc (Nat.le_refl _) X).cell (p := ⟨gb, 4, none⟩) hgbw |>.trans h.bo.b4
  have m1 : ((o.do_ : Int)).tmod 12 = 8 := by rw [Int.tmod_eq_emod_of_nonneg (by omega)]; omega
  have m2 : ((o.do_ : Int)) % 12 = 8 := by omega

  have HS0 := Lib.hid hs0
  have HW0 := Lib.hid hW0
  unfold opCells at hW0 ⊢
  rw [hSN, hST] at hW0 ⊢
  clear h hv hvb hvk hvk1 hvk2 hvk3 hvk4 hco hb0 hc0 hbo0 hfi0 hvb0 hvk0 hSN hST hF hgS hlow ok hs0 ho0 hn0 i0 e1 e2 e3 e4 e5 e6
  go_enter Try.func12, Try.ntmps12
  go_wp2_with fail
  clear hW0
  have hsl := HSL.out
  have hs0 := HS0.out
  obtain ⟨wd, hwd⟩ : ∃ wd, W0.drew = wd := ⟨_, rfl⟩
  have hbd : Below W0.heap.size W0 wd := by rw [← hwd]; exact (Below.refl _ _).drew
  have hsd : wd.heap.size = W0.heap.size := by rw [← hwd]; rfl
  refine RK.begin_ (T := fun k => ¬ S k) [(0, true), (1, true), (2, true), (3, true), (4, true), (5, true), (6, false)] (by kernel_rfl) (by kernel_rfl) rfl (by kernel_rfl) (fun _ _ d _ _ h => by cases d <;> exact h) ?_
  simp only [RK.ordered, List.map_cons, List.map_nil, List.getElem?_toArray, List.getElem?_cons_succ, List.getElem?_cons_zero]
  rw [hwd]
  have hcod := HCO.out.below hbd
  have hbod : BothAt wd gb g (.slice pl d.L.length cl) d := (hbd.block gb HBO.out.lt).trans HBO.out
  have HBD := Lib.hid hbod
  have hfid : FilesIn (XS X S gb (w.heap.size + 1)) wd.heap.size wd (.slice pl d.L.length cl) d.L := (HFI.out.below hbd).mono hbd.size
  have HCD := Lib.hid hcod
  have HFD := Lib.hid hfid
  have hgw : ¬ S w.heap.size := fun q => by have := hsl _ q; omega
  have hgn : ¬ S (w.heap.size + 1) := fun q => by have := hsl _ q; omega
  have hws : w.heap.size < wd.heap.size := by omega
  have b0 := fun W (hW : Kep (fun k => ¬ S k) wd W) => (show W.cell? ⟨gb, 0, none⟩ = some (.pointer (some ⟨g, 0, none⟩)) from (hW.cell HBD.out.lt HGS.out 0).trans HBD.out.b0)
  have r4 := fun W (hW : Kep (fun k => ¬ S k) wd W) => (show W.cell? ⟨w.heap.size, 4, none⟩ = some (.int .i64 o.a) from (hW.cell hws hgw 4).trans ((hbd.cell (p := ⟨w.heap.size, 4, none⟩) (by show w.heap.size < _; omega)).trans E4.out))
  have HSDD := Lib.hid hsd
  clear hwd hcod hbod hfid hsd hs0 hsl
  repeat (refine RK.take (by rfl) (by intro W hW; go_simp; with_reducible rfl) ?_; simp only [Act.put, List.setIfInBounds_toArray, List.set_cons_zero, List.set_cons_succ])
  clear b0 r4
  have hcall := carm_any S g mb V c o.a d wd HCD.out oa0 oa1
  refine RK.alone (by rfl) (fun K hK => ?_)
  go_simp
  refine hcall.mono ?_
  rintro e w1 ⟨rfl, hco0, hk0⟩
  go_simp
  obtain ⟨S1, V1, c1, hco1, hx1⟩ : ∃ S1 V1 c1, CObj S1 w1 g mb V1 c1 R.1 ∧ Ext S S1 wd w1 := ⟨S, V, o.a, by rw [← hR1]; exact hco0, Ext.refl_ (kep_not HCD.out.gS hk0)⟩
  clear hk0 hco0
  refine hK.out _ _ hx1.kep ?_
  clear hK K hcall
  repeat (refine RK.take (by rfl) (by intro W hW; go_simp; with_reducible rfl) ?_; simp only [Act.put, List.setIfInBounds_toArray, List.set_cons_zero, List.set_cons_succ])
  refine RK.done ?_
  have hsd := HSDD.out
  have hs0 := HS0.out
  obtain ⟨hbo1, hfi1, hgS1⟩ := Sim.ext (A := A) HBD.out HFD.out HGS.out hx1
  have hk1 := hx1.kep
  have hs1 := hk1.size
  have hnS1 : ¬ S1 (w.heap.size + 1) := fun q => (hx1.new _ q).elim hgn (fun q => by omega)
  obtain ⟨hlow1, hbA1⟩ := low_ext hx1 HLOW.out (by omega : A ≤ wd.heap.size)
  have hbw1 : Below A w w1 := (HB0.out.trans (hbd.mono (by omega))).trans hbA1
  have hn1 : BoxAt w1 (w.heap.size + 1) (.slice pl d.L.length cl) d := (hk1.block _ (by omega) hgn).trans ((hbd.block _ HN.out.lt).trans HN.out)
  have hfi1 : FilesIn (XS X S1 gb (w.heap.size + 1)) w1.heap.size w1 (.slice pl d.L.length cl) d.L := hfi1.mono hs1
  have HE4 := Lib.hid (show w1.cell? ⟨w.heap.size, 4, none⟩ = some (.int .i64 o.a) from (hk1.cell hws hgw 4).trans ((hbd.cell (p := ⟨w.heap.size, 4, none⟩) (by show w.heap.size < _; omega)).trans E4.out))
  have HBO1 := Lib.hid hbo1
  have HFI1 := Lib.hid hfi1
  have HCO1 := Lib.hid hco1
  have HN1 := Lib.hid hn1
  have HGS1 := Lib.hid hgS1
  have HNS1 := Lib.hid hnS1
  have HLOW1 := Lib.hid hlow1
  have HBW1 := Lib.hid hbw1
  have HS1 := Lib.hid hs1
  have HNE := Lib.hid (show ∀ k, S1 k → S k ∨ w.heap.size ≤ k from fun k hk => (hx1.new k hk).imp id fun q => by omega)
  have KEP1 := Lib.hid (((kep_below (fun k => ¬ S k) HB00.out).trans (kep_below _ hbd)).trans hk1)
  have HVB1 := Lib.hid (BIn.below HVB.out ((hbd.mono (by omega)).trans hbA1))
  have HVK1 := Lib.hid (RowIn.below HVK.out ((hbd.mono (by omega)).trans hbA1))
  clear hbd hbo1 hfi1 hco1 hn1 hgS1 hnS1 hlow1 hbw1 hbA1 hx1 hk1 hgn hgw hws hsd hs0 hs1
  go_wp2_with fail
  obtain ⟨wq, hwq⟩ : ∃ wd, w1.drew = wd := ⟨_, rfl⟩
  have hbq : Below w1.heap.size w1 wq := by rw [← hwq]; exact (Below.refl _ _).drew
  have hsq : wq.heap.size = w1.heap.size := by rw [← hwq]; rfl
  refine RK.begin_ (T := fun k => k ≠ w.heap.size + 1) [(0, true), (1, true), (2, true), (3, true), (4, true), (5, true), (6, false), (7, false)] (by kernel_rfl) (by kernel_rfl) rfl (by kernel_rfl) (fun _ _ d _ _ h => by cases d <;> exact h) ?_
  simp only [RK.ordered, List.map_cons, List.map_nil, List.getElem?_toArray, List.getElem?_cons_succ, List.getElem?_cons_zero]
  rw [hwq]
  have hbo2 : BothAt wq gb g (.slice pl d.L.length cl) d := (hbq.block gb HBO1.out.lt).trans HBO1.out
  have HBO2 := Lib.hid hbo2
  have hws : w.heap.size < w1.heap.size := by have := HS1.out; have := HSDD.out; have := HS0.out; omega
  have hgn : gb ≠ w.heap.size + 1 := by omega
  have b1 := fun W (hW : Kep (fun k => k ≠ w.heap.size + 1) wq W) => (show W.cell? ⟨gb, 1, none⟩ = _ from (hW.cell HBO2.out.lt hgn 1).trans HBO2.out.b1)
  have b2 := fun W (hW : Kep (fun k => k ≠ w.heap.size + 1) wq W) => (show W.cell? ⟨gb, 2, none⟩ = _ from (hW.cell HBO2.out.lt hgn 2).trans HBO2.out.b2)
  have b3 := fun W (hW : Kep (fun k => k ≠ w.heap.size + 1) wq W) => (show W.cell? ⟨gb, 3, none⟩ = _ from (hW.cell HBO2.out.lt hgn 3).trans HBO2.out.b3)
  have b4 := fun W (hW : Kep (fun k => k ≠ w.heap.size + 1) wq W) => (show W.cell? ⟨gb, 4, none⟩ = _ from (hW.cell HBO2.out.lt hgn 4).trans HBO2.out.b4)
  have r4 := fun W (hW : Kep (fun k => k ≠ w.heap.size + 1) wq W) => (show W.cell? ⟨w.heap.size, 4, none⟩ = some (.int .i64 o.a) from (hW.cell (by omega) (by omega) 4).trans ((hbq.cell (p := ⟨w.heap.size, 4, none⟩) hws).trans HE4.out))
  clear hwq hbo2
  repeat (refine RK.take (by rfl) (by intro W hW; go_simp; with_reducible rfl) ?_; simp only [Act.put, List.setIfInBounds_toArray, List.set_cons_zero, List.set_cons_succ])
  clear b1 b2 b3 b4 r4
  have hcoq := HCO1.out.below hbq
  have hfiq : FilesIn (XS X S1 gb (w.heap.size + 1)) wq.heap.size wq (.slice pl d.L.length cl) d.L := (HFI1.out.below hbq).mono hbq.size
  have hXq : ∀ k, XS X S1 gb (w.heap.size + 1) k → k < wq.heap.size := fun k hk => by
    rcases hk with hk | hk | hk | hk
    · exact hcoq.lt k hk
    · omega
    · have := HN1.out.lt; omega
    · have := HXL.out k hk; omega
  have hll : d.L.length ≤ 1000000 := by have := HF.out.len; omega
  have hnn : ∀ g ∈ d.L, g.name.length ≤ 1000000000 := fun x hx => by have := HF.out.name x hx; omega
  have hbb : ∀ g ∈ d.L, g.b.length ≤ 1000000000 := fun x hx => by have := HF.out.bytes x hx; omega
  have hcall := (rarm_any (.slice pl d.L.length cl) d o.a wq pl d.L.length cl rfl).mono fun e w2 q => (⟨_, q.1, rfl, q.2⟩ : ∃ L2, e = .returned (diskV L2 (armD d o.a)) ∧ L2 = .slice pl d.L.length cl ∧ Below wq.heap.size wq w2)
  rw [hR1] at hcall

  refine RK.alone (by rfl) (fun K hK => ?_)
  go_simp
  refine hcall.mono ?_
  rintro e w2 ⟨L2, rfl, hL2, hb2⟩
  have hfi2 : FilesIn (XS X S1 gb (w.heap.size + 1)) w2.heap.size w2 L2 R.1.L := by rw [hL2, ← hR1]; exact (hfiq.below hb2).mono hb2.size
  clear hL2
  go_simp
  refine hK.out _ _ (kep_below _ hb2) ?_
  clear hK K hcall
  repeat (refine RK.take (by rfl) (by intro W hW; go_simp; with_reducible rfl) ?_; simp only [Act.put, List.setIfInBounds_toArray, List.set_cons_zero, List.set_cons_succ])
  obtain ⟨p2, c2, rfl, _, _⟩ := hfi2.shape
  have hn2 := (HN1.out.below hbq HN1.out.lt).below hb2 (HN1.out.below hbq HN1.out.lt).lt
  have hbo2 : BothAt w2 gb g (.slice pl d.L.length cl) d := (hb2.block gb HBO2.out.lt).trans HBO2.out
  have hco2 := hcoq.below hb2
  obtain ⟨z1, z2, z3, z4⟩ := sim_end (A := A) hco2 hbo2 hn2 hfi2 HGS1.out HNS1.out hgn HLOW1.out hgA (by omega) hfr
  refine RK.alone (by rfl) (fun K hK => ?_)
  refine wp_store_mid 29 _ _ rfl (w.heap.size + 1) 0 #[.slice p2 R.1.L.length c2, .int .i64 R.1.quota, .int .i64 R.1.armed, .bool R.1.stopped] rfl rfl ?_ (by kernel_rfl) ?_ ?_
  · intro j hj
    rw [Nat.zero_add, hn2.free j]
    refine ⟨?_, rfl⟩
    match j, hj with
    | 0, _ => rw [hn2.files]; rfl
    | 1, _ => rw [hn2.quota]; rfl
    | 2, _ => rw [hn2.armed]; rfl
    | 3, _ => rw [hn2.stopped]; rfl
  · refine all_oneCell_toArray (cs := [_, _, _, _]) ?_
    intro v hv
    simp only [List.mem_cons, List.not_mem_nil, or_false] at hv
    rcases hv with rfl | rfl | rfl | rfl <;> rfl
  refine hK.out _ _ (box_kep w2 (w.heap.size + 1) (.slice p2 R.1.L.length c2) R.1) ?_
  clear hK K
  repeat (refine RK.take (by rfl) (by intro W hW; go_simp; with_reducible rfl) ?_; simp only [Act.put, List.setIfInBounds_toArray, List.set_cons_zero, List.set_cons_succ])
  refine RK.done ?_
  obtain ⟨W3, hW3⟩ : ∃ W, putBox w2 (w.heap.size + 1) (.slice p2 R.1.L.length c2) R.1 = W := ⟨_, rfl⟩
  have hW3' : w2.setCells (w.heap.size + 1) 0 (#[.slice p2 R.1.L.length c2, .int .i64 R.1.quota, .int .i64 R.1.armed, .bool R.1.stopped] : Array Value).toList = W3 := hW3
  have kend := kep_end (gb := gb) (nb := w.heap.size + 1) (L := .slice p2 R.1.L.length c2) (r := R.1) KEP1.out hbq hb2 (by omega)
  rw [hW3] at z1 z2 z3 z4 kend
  rw [hW3']
  have HFIN := Lib.hid (show StepC X A S gb R.1 w (.returned (.bool true)) (putBoth W3 gb (.slice p2 R.1.L.length c2) R.1) from ⟨rfl, S1, g, _, z3, (HBW1.out.trans (hbq.mono (Nat.le_trans hA (Nat.le_of_lt hws)))).trans ((hb2.mono (by omega)).trans z4), kend, HNE.out⟩)
  clear kend
  unfold putBoth at HFIN
  have y0 := z1.files
  have y1 := z1.quota
  have y2 := z1.armed
  have y3 := z1.stopped
  have x1 := z2.b1
  have x2 := z2.b2
  have x3 := z2.b3
  have x4 := z2.b4
  have xf := fun k => z2.free k
  clear z1 z2 z3 z4 hW3 hW3' hn2 hbo2 hco2 hb2 hfi2 hbq hcoq hfiq hXq hll hnn hbb hfr hsq
  try simp only [Act.put]
  go_wp2_with fail
  go_ret
  exact HFIN.out
end Go.Proofs.Ytljfpolcgegkpaa.DK

/-
  An op done on both disks: Restart. Conditions: names and bytes as short leaves them; what the op holds lies below block A.
-/
namespace Go.Proofs.Ytljfpolcgegkpaa.DK
open Go.RowKit Go.Proofs.Ytljfpolcgegkpaa.MM Go.Maps
variable {X : Nat → Prop}

set_option maxRecDepth 100000 in
set_option maxHeartbeats 2000000 in
theorem step_restart (A gb g : Nat) (S : Nat → Prop) (L : Value) (d : DiskD) (v : Value) (o : OpD) (w : World) (h : Sim X A S w gb g L d) (hv : OpIn A w v o) (hA : A ≤ w.heap.size) (hnl : o.name.length ≤ 70) (htl : o.to_.length ≤ 70) (hbl : o.b.length ≤ 100) (hkl : o.keep.length ≤ 10) (hXl : ∀ k, X k → k < w.heap.size) (hm : o.do_ % 12 = 9) :
    Calls Try.prog 12 #[.pointer (some ⟨gb, 0, none⟩), v] w (StepC X A S gb (restartD d o.keep) w) := by
  obtain ⟨R, hR⟩ : ∃ R : DiskD × Int, (restartD d o.keep, 0) = R := ⟨_, rfl⟩
  have hR1 : restartD d o.keep = R.1 := by rw [← hR]
  have hfr : Fits R.1 := hR1 ▸ restart_fits _ h.fits
  rw [hR1]
  obtain ⟨mb, V, c, hco⟩ := h.co
  obtain ⟨vb, vk, rfl, hvb, hvk⟩ := hv.val
  obtain ⟨pb, cb, rfl, _, _⟩ := hvb.shape
  obtain ⟨pk, ck, hvk', hvk1, hvk2, hvk3, hvk4⟩ := id hvk
  rw [List.length_map] at hvk'
  subst hvk'
  obtain ⟨pl, cl, rfl, hlc, hcm⟩ := h.fi.shape
  obtain ⟨W0, hW0⟩ : ∃ W, (w.alloc (.cells (opCells o (.slice pb o.b.length cb) (.slice pk o.keep.length ck)) 39)).alloc (.cells #[.slice pl d.L.length cl, .int .i64 d.quota, .int .i64 d.armed, .bool d.stopped] 29) = W := ⟨_, rfl⟩
  have hb0 : Below w.heap.size w W0 := by rw [← hW0]; exact ((Below.refl _ _).alloc (Nat.le_refl _) _).alloc (by simp) _
  have hs0 : W0.heap.size = w.heap.size + 2 := by rw [← hW0]; simp
  have ho0 : W0.heap[w.heap.size]? = some (.cells (opCells o (.slice pb o.b.length cb) (.slice pk o.keep.length ck)) 39 (0, 0)) := by
    rw [← hW0]
    have h1 := heap_alloc_new w (.cells (opCells o (.slice pb o.b.length cb) (.slice pk o.keep.length ck)) 39)
    exact (((Below.refl _ _).alloc (Nat.le_refl _) _).block w.heap.size (by simp)).trans h1
  have hn0 : BoxAt W0 (w.heap.size + 1) (.slice pl d.L.length cl) d := by rw [← hW0]; exact two_new' w _ d
  have hgbw := h.bo.lt
  have hgS := h.gbS
  have hlow := h.low
  have hgA := h.gbA
  have hF := h.fits
  have harm := hco.arm1
  have hc0 := hco.below hb0
  have hbo0 : BothAt W0 gb g (.slice pl d.L.length cl) d := (hb0.block gb hgbw).trans h.bo
  have hfi0 : FilesIn (XS X S gb (w.heap.size + 1)) W0.heap.size W0 (.slice pl d.L.length cl) d.L := ((h.fi.below hb0).weak fun b hb hx => by
    rcases hx with hx | hx | hx | hx
    · exact .inl hx
    · exact .inr (.inl hx)
    · exact absurd hx (by omega)
    · exact .inr (.inr (.inr hx))).mono hb0.size
  have hA0 : A ≤ W0.heap.size := by omega
  have hvb0 := hvb.below (hb0.mono hA)
  have hvk0 := RowIn.below hvk (hb0.mono hA)
  have od := hv.d
  have oa0 := hv.a0
  have oa1 := hv.a1
  have on0 := hv.n0
  have on1 := hv.n1
  have ok := hv.k
  obtain ⟨SN, hSN⟩ : ∃ s : ByteArray, (⟨o.name.toArray⟩ : ByteArray) = s := ⟨_, rfl⟩
  obtain ⟨ST, hST⟩ : ∃ s : ByteArray, (⟨o.to_.toArray⟩ : ByteArray) = s := ⟨_, rfl⟩
  have e0 : W0.cell? ⟨w.heap.size, 0, none⟩ = some (.int .u8 (o.do_ : Int)) := by rw [cell_of_row _ _ 0 _ _ _ ho0]; rfl
  have e1 : W0.cell? ⟨w.heap.size, 1, none⟩ = some (.string SN) := by rw [cell_of_row _ _ 1 _ _ _ ho0, ← hSN]; rfl
  have e2 : W0.cell? ⟨w.heap.size, 2, none⟩ = some (.string ST) := by rw [cell_of_row _ _ 2 _ _ _ ho0, ← hST]; rfl
  have e3 : W0.cell? ⟨w.heap.size, 3, none⟩ = some (.slice pb o.b.length cb) := by rw [cell_of_row _ _ 3 _ _ _ ho0]; rfl
  have e4 : W0.cell? ⟨w.heap.size, 4, none⟩ = some (.int .i64 o.a) := by rw [cell_of_row _ _ 4 _ _ _ ho0]; rfl
  have e5 : W0.cell? ⟨w.heap.size, 5, none⟩ = some (.int .i64 o.n) := by rw [cell_of_row _ _ 5 _ _ _ ho0]; rfl
  have e6 : W0.cell? ⟨w.heap.size, 6, none⟩ = some (.slice pk o.keep.length ck) := by rw [cell_of_row _ _ 6 _ _ _ ho0]; rfl
  have E1 := Lib.hid e1
  have E2 := Lib.hid e2
  have E3 := Lib.hid e3
  have E4 := Lib.hid e4
  have E5 := Lib.hid e5
  have E6 := Lib.hid e6
  have HCO := Lib.hid hc0
  have HBO := Lib.hid hbo0
  have HFI := Lib.hid hfi0
  have HN := Lib.hid hn0
  have HVB := Lib.hid hvb0
  have HVK := Lib.hid hvk0
  have HSN := Lib.hid hSN
  have HST := Lib.hid hST
  have HB0 := Lib.hid (show Below A w W0 from hb0.mono hA)
  have HB00 := Lib.hid hb0
  have HF := Lib.hid hF
  have HGS := Lib.hid hgS
  have HLOW := Lib.hid hlow
  have hul := h.fits.used
  have HSL := Lib.hid hco.lt
  have HXL := Lib.hid hXl
  clear hXl
  have HOK := Lib.hid ok
  have i0 : w.heap[gb]? = some (.cells #[.pointer (some ⟨g, 0, none⟩), .slice pl d.L.length cl, .int .i64 d.quota, .int .i64 d.armed, .bool d.stopped] 35 (0, 0)) := h.bo
  have j0 := fun X => ((Below.refl w.heap.size w).alloc (Nat.le_refl _) X).cell (p := ⟨gb, 1, none⟩) hgbw |>.trans h.bo.b1
  have j1 := fun X => ((Below.refl w.heap.size w).alloc (Nat.le_refl _) X).cell (p := ⟨gb, 2, none⟩) hgbw |>.trans h.bo.b2
  have j2 := fun X => ((Below.refl w.heap.size w).alloc (Nat.le_refl _) X).cell (p := ⟨gb, 3, none⟩) hgbw |>.trans h.bo.b3
  have j3 := fun X => ((Below.refl w.heap.size w).alloc (Nat.le_refl _) X).cell (p := ⟨gb, 4, none⟩) hgbw |>.trans h.bo.b4
  have m1 : ((o.do_ : Int)).tmod 12 = 9 := by rw [Int.tmod_eq_emod_of_nonneg (by omega)]; omega
  have m2 : ((o.do_ : Int)) % 12 = 9 := by omega

  have HS0 := Lib.hid hs0
  have HW0 := Lib.hid hW0
  unfold opCells at hW0 ⊢
  rw [hSN, hST] at hW0 ⊢
  clear h hv hvb hvk hvk1 hvk2 hvk3 hvk4 hco hb0 hc0 hbo0 hfi0 hvb0 hvk0 hSN hST hF hgS hlow ok hs0 ho0 hn0 i0 e1 e2 e3 e4 e5 e6
  go_enter Try.func12, Try.ntmps12
  go_wp2_with fail
  clear hW0
  have hsl := HSL.out
  have hs0 := HS0.out
  obtain ⟨wd, hwd⟩ : ∃ wd, W0.drew = wd := ⟨_, rfl⟩
  have hbd : Below W0.heap.size W0 wd := by rw [← hwd]; exact (Below.refl _ _).drew
  have hsd : wd.heap.size = W0.heap.size := by rw [← hwd]; rfl
  refine RK.begin_ (T := fun k => ¬ S k) [(0, true), (1, true), (2, true), (3, true), (4, true), (5, true), (6, false)] (by kernel_rfl) (by kernel_rfl) rfl (by kernel_rfl) (fun _ _ d _ _ h => by cases d <;> exact h) ?_
  simp only [RK.ordered, List.map_cons, List.map_nil, List.getElem?_toArray, List.getElem?_cons_succ, List.getElem?_cons_zero]
  rw [hwd]
  have hcod := HCO.out.below hbd
  have hbod : BothAt wd gb g (.slice pl d.L.length cl) d := (hbd.block gb HBO.out.lt).trans HBO.out
  have HBD := Lib.hid hbod
  have hfid : FilesIn (XS X S gb (w.heap.size + 1)) wd.heap.size wd (.slice pl d.L.length cl) d.L := (HFI.out.below hbd).mono hbd.size
  have HCD := Lib.hid hcod
  have HFD := Lib.hid hfid
  have hgw : ¬ S w.heap.size := fun q => by have := hsl _ q; omega
  have hgn : ¬ S (w.heap.size + 1) := fun q => by have := hsl _ q; omega
  have hws : w.heap.size < wd.heap.size := by omega
  have b0 := fun W (hW : Kep (fun k => ¬ S k) wd W) => (show W.cell? ⟨gb, 0, none⟩ = some (.pointer (some ⟨g, 0, none⟩)) from (hW.cell HBD.out.lt HGS.out 0).trans HBD.out.b0)
  have r6 := fun W (hW : Kep (fun k => ¬ S k) wd W) => (show W.cell? ⟨w.heap.size, 6, none⟩ = some (.slice pk o.keep.length ck) from (hW.cell hws hgw 6).trans ((hbd.cell (p := ⟨w.heap.size, 6, none⟩) (by show w.heap.size < _; omega)).trans E6.out))
  have HSDD := Lib.hid hsd
  clear hwd hcod hbod hfid hsd hs0 hsl
  repeat (refine RK.take (by rfl) (by intro W hW; go_simp; with_reducible rfl) ?_; simp only [Act.put, List.setIfInBounds_toArray, List.set_cons_zero, List.set_cons_succ])
  clear b0 r6
  have hcall := crestart_any S g mb V c d (.slice pk o.keep.length ck) o.keep wd HCD.out HF.out (RowIn.mono (RowIn.below HVK.out (hbd.mono (by omega))) (by omega)) HOK.out (by omega)
  refine RK.alone (by rfl) (fun K hK => ?_)
  go_simp
  refine hcall.mono ?_
  rintro e w1 ⟨rfl, ⟨V0, hco0⟩, hk0⟩
  go_simp
  obtain ⟨S1, V1, c1, hco1, hx1⟩ : ∃ S1 V1 c1, CObj S1 w1 g mb V1 c1 R.1 ∧ Ext S S1 wd w1 := ⟨S, V0, 0, by rw [← hR1]; exact hco0, Ext.refl_ hk0⟩
  clear hco0 hk0
  refine hK.out _ _ hx1.kep ?_
  clear hK K hcall
  repeat (refine RK.take (by rfl) (by intro W hW; go_simp; with_reducible rfl) ?_; simp only [Act.put, List.setIfInBounds_toArray, List.set_cons_zero, List.set_cons_succ])
  refine RK.done ?_
  have hsd := HSDD.out
  have hs0 := HS0.out
  obtain ⟨hbo1, hfi1, hgS1⟩ := Sim.ext (A := A) HBD.out HFD.out HGS.out hx1
  have hk1 := hx1.kep
  have hs1 := hk1.size
  have hnS1 : ¬ S1 (w.heap.size + 1) := fun q => (hx1.new _ q).elim hgn (fun q => by omega)
  obtain ⟨hlow1, hbA1⟩ := low_ext hx1 HLOW.out (by omega : A ≤ wd.heap.size)
  have hbw1 : Below A w w1 := (HB0.out.trans (hbd.mono (by omega))).trans hbA1
  have hn1 : BoxAt w1 (w.heap.size + 1) (.slice pl d.L.length cl) d := (hk1.block _ (by omega) hgn).trans ((hbd.block _ HN.out.lt).trans HN.out)
  have hfi1 : FilesIn (XS X S1 gb (w.heap.size + 1)) w1.heap.size w1 (.slice pl d.L.length cl) d.L := hfi1.mono hs1
  have HE6 := Lib.hid (show w1.cell? ⟨w.heap.size, 6, none⟩ = some (.slice pk o.keep.length ck) from (hk1.cell hws hgw 6).trans ((hbd.cell (p := ⟨w.heap.size, 6, none⟩) (by show w.heap.size < _; omega)).trans E6.out))
  have HBO1 := Lib.hid hbo1
  have HFI1 := Lib.hid hfi1
  have HCO1 := Lib.hid hco1
  have HN1 := Lib.hid hn1
  have HGS1 := Lib.hid hgS1
  have HNS1 := Lib.hid hnS1
  have HLOW1 := Lib.hid hlow1
  have HBW1 := Lib.hid hbw1
  have HS1 := Lib.hid hs1
  have HNE := Lib.hid (show ∀ k, S1 k → S k ∨ w.heap.size ≤ k from fun k hk => (hx1.new k hk).imp id fun q => by omega)
  have KEP1 := Lib.hid (((kep_below (fun k => ¬ S k) HB00.out).trans (kep_below _ hbd)).trans hk1)
  have HVB1 := Lib.hid (BIn.below HVB.out ((hbd.mono (by omega)).trans hbA1))
  have HVK1 := Lib.hid (RowIn.below HVK.out ((hbd.mono (by omega)).trans hbA1))
  clear hbd hbo1 hfi1 hco1 hn1 hgS1 hnS1 hlow1 hbw1 hbA1 hx1 hk1 hgn hgw hws hsd hs0 hs1
  go_wp2_with fail
  obtain ⟨wq, hwq⟩ : ∃ wd, w1.drew = wd := ⟨_, rfl⟩
  have hbq : Below w1.heap.size w1 wq := by rw [← hwq]; exact (Below.refl _ _).drew
  have hsq : wq.heap.size = w1.heap.size := by rw [← hwq]; rfl
  refine RK.begin_ (T := fun k => k ≠ w.heap.size + 1) [(0, true), (1, true), (2, true), (3, true), (4, true), (5, true), (6, false), (7, false)] (by kernel_rfl) (by kernel_rfl) rfl (by kernel_rfl) (fun _ _ d _ _ h => by cases d <;> exact h) ?_
  simp only [RK.ordered, List.map_cons, List.map_nil, List.getElem?_toArray, List.getElem?_cons_succ, List.getElem?_cons_zero]
  rw [hwq]
  have hbo2 : BothAt wq gb g (.slice pl d.L.length cl) d := (hbq.block gb HBO1.out.lt).trans HBO1.out
  have HBO2 := Lib.hid hbo2
  have hws : w.heap.size < w1.heap.size := by have := HS1.out; have := HSDD.out; have := HS0.out; omega
  have hgn : gb ≠ w.heap.size + 1 := by omega
  have b1 := fun W (hW : Kep (fun k => k ≠ w.heap.size + 1) wq W) => (show W.cell? ⟨gb, 1, none⟩ = _ from (hW.cell HBO2.out.lt hgn 1).trans HBO2.out.b1)
  have b2 := fun W (hW : Kep (fun k => k ≠ w.heap.size + 1) wq W) => (show W.cell? ⟨gb, 2, none⟩ = _ from (hW.cell HBO2.out.lt hgn 2).trans HBO2.out.b2)
  have b3 := fun W (hW : Kep (fun k => k ≠ w.heap.size + 1) wq W) => (show W.cell? ⟨gb, 3, none⟩ = _ from (hW.cell HBO2.out.lt hgn 3).trans HBO2.out.b3)
  have b4 := fun W (hW : Kep (fun k => k ≠ w.heap.size + 1) wq W) => (show W.cell? ⟨gb, 4, none⟩ = _ from (hW.cell HBO2.out.lt hgn 4).trans HBO2.out.b4)
  have r6 := fun W (hW : Kep (fun k => k ≠ w.heap.size + 1) wq W) => (show W.cell? ⟨w.heap.size, 6, none⟩ = some (.slice pk o.keep.length ck) from (hW.cell (by omega) (by omega) 6).trans ((hbq.cell (p := ⟨w.heap.size, 6, none⟩) hws).trans HE6.out))
  clear hwq hbo2
  repeat (refine RK.take (by rfl) (by intro W hW; go_simp; with_reducible rfl) ?_; simp only [Act.put, List.setIfInBounds_toArray, List.set_cons_zero, List.set_cons_succ])
  clear b1 b2 b3 b4 r6
  have hcoq := HCO1.out.below hbq
  have hfiq : FilesIn (XS X S1 gb (w.heap.size + 1)) wq.heap.size wq (.slice pl d.L.length cl) d.L := (HFI1.out.below hbq).mono hbq.size
  have hXq : ∀ k, XS X S1 gb (w.heap.size + 1) k → k < wq.heap.size := fun k hk => by
    rcases hk with hk | hk | hk | hk
    · exact hcoq.lt k hk
    · omega
    · have := HN1.out.lt; omega
    · have := HXL.out k hk; omega
  have hll : d.L.length ≤ 1000000 := by have := HF.out.len; omega
  have hnn : ∀ g ∈ d.L, g.name.length ≤ 1000000000 := fun x hx => by have := HF.out.name x hx; omega
  have hbb : ∀ g ∈ d.L, g.b.length ≤ 1000000000 := fun x hx => by have := HF.out.bytes x hx; omega
  have hcall := rrestart_any wq.heap.size (.slice pl d.L.length cl) (.slice pk o.keep.length ck) d o.keep wq hfiq (Nat.le_refl _) hll HF.out.good.sure hbb (RowIn.mono (RowIn.below HVK1.out (hbq.mono (Nat.le_trans hA (Nat.le_of_lt hws)))) (by omega)) HOK.out hXq
  rw [hR1] at hcall

  refine RK.alone (by rfl) (fun K hK => ?_)
  go_simp
  refine hcall.mono ?_
  rintro e w2 ⟨L2, rfl, hfi2, hb2⟩
  go_simp
  refine hK.out _ _ (kep_below _ hb2) ?_
  clear hK K hcall
  repeat (refine RK.take (by rfl) (by intro W hW; go_simp; with_reducible rfl) ?_; simp only [Act.put, List.setIfInBounds_toArray, List.set_cons_zero, List.set_cons_succ])
  obtain ⟨p2, c2, rfl, _, _⟩ := hfi2.shape
  have hn2 := (HN1.out.below hbq HN1.out.lt).below hb2 (HN1.out.below hbq HN1.out.lt).lt
  have hbo2 : BothAt w2 gb g (.slice pl d.L.length cl) d := (hb2.block gb HBO2.out.lt).trans HBO2.out
  have hco2 := hcoq.below hb2
  obtain ⟨z1, z2, z3, z4⟩ := sim_end (A := A) hco2 hbo2 hn2 hfi2 HGS1.out HNS1.out hgn HLOW1.out hgA (by omega) hfr
  refine RK.alone (by rfl) (fun K hK => ?_)
  refine wp_store_mid 29 _ _ rfl (w.heap.size + 1) 0 #[.slice p2 R.1.L.length c2, .int .i64 R.1.quota, .int .i64 R.1.armed, .bool R.1.stopped] rfl rfl ?_ (by kernel_rfl) ?_ ?_
  · intro j hj
    rw [Nat.zero_add, hn2.free j]
    refine ⟨?_, rfl⟩
    match j, hj with
    | 0, _ => rw [hn2.files]; rfl
    | 1, _ => rw [hn2.quota]; rfl
    | 2, _ => rw [hn2.armed]; rfl
    | 3, _ => rw [hn2.stopped]; rfl
  · refine all_oneCell_toArray (cs := [_, _, _, _]) ?_
    intro v hv
    simp only [List.mem_cons, List.not_mem_nil, or_false] at hv
    rcases hv with rfl | rfl | rfl | rfl <;> rfl
  refine hK.out _ _ (box_kep w2 (w.heap.size + 1) (.slice p2 R.1.L.length c2) R.1) ?_
  clear hK K
  repeat (refine RK.take (by rfl) (by intro W hW; go_simp; with_reducible rfl) ?_; simp only [Act.put, List.setIfInBounds_toArray, List.set_cons_zero, List.set_cons_succ])
  refine RK.done ?_
  obtain ⟨W3, hW3⟩ : ∃ W, putBox w2 (w.heap.size + 1) (.slice p2 R.1.L.length c2) R.1 = W := ⟨_, rfl⟩
  have hW3' : w2.setCells (w.heap.size + 1) 0 (#[.slice p2 R.1.L.length c2, .int .i64 R.1.quota, .int .i64 R.1.armed, .bool R.1.stopped] : Array Value).toList = W3 := hW3
  have kend := kep_end (gb := gb) (nb := w.heap.size + 1) (L := .slice p2 R.1.L.length c2) (r := R.1) KEP1.out hbq hb2 (by omega)
  rw [hW3] at z1 z2 z3 z4 kend
  rw [hW3']
  have HFIN := Lib.hid (show StepC X A S gb R.1 w (.returned (.bool true)) (putBoth W3 gb (.slice p2 R.1.L.length c2) R.1) from ⟨rfl, S1, g, _, z3, (HBW1.out.trans (hbq.mono (Nat.le_trans hA (Nat.le_of_lt hws)))).trans ((hb2.mono (by omega)).trans z4), kend, HNE.out⟩)
  clear kend
  unfold putBoth at HFIN
  have y0 := z1.files
  have y1 := z1.quota
  have y2 := z1.armed
  have y3 := z1.stopped
  have x1 := z2.b1
  have x2 := z2.b2
  have x3 := z2.b3
  have x4 := z2.b4
  have xf := fun k => z2.free k
  clear z1 z2 z3 z4 hW3 hW3' hn2 hbo2 hco2 hb2 hfi2 hbq hcoq hfiq hXq hll hnn hbb hfr hsq
  try simp only [Act.put]
  go_wp2_with fail
  go_ret
  exact HFIN.out
end Go.Proofs.Ytljfpolcgegkpaa.DK

/-
  An op done on both disks: Read. Conditions: names and bytes as short leaves them; what the op holds lies below block A.
-/
namespace Go.Proofs.Ytljfpolcgegkpaa.DK
open Go.RowKit Go.Proofs.Ytljfpolcgegkpaa.MM Go.Maps
variable {X : Nat → Prop}

theorem cread_eq (d : DiskD) (n : List UInt8) (a m : Int) : creadD d n a m = readD d n a m := by
  unfold creadD readD findE partD curB
  cases hn : namedL n <;> cases hs : d.stopped <;> cases hf : findL d.L n <;> simp
set_option maxRecDepth 100000 in
set_option maxHeartbeats 2000000 in
theorem step_read (A gb g : Nat) (S : Nat → Prop) (L : Value) (d : DiskD) (v : Value) (o : OpD) (w : World) (h : Sim X A S w gb g L d) (hv : OpIn A w v o) (hA : A ≤ w.heap.size) (hnl : o.name.length ≤ 70) (htl : o.to_.length ≤ 70) (hbl : o.b.length ≤ 100) (hkl : o.keep.length ≤ 10) (hXl : ∀ k, X k → k < w.heap.size) (hm : o.do_ % 12 = 7) :
    Calls Try.prog 12 #[.pointer (some ⟨gb, 0, none⟩), v] w (StepC X A S gb d w) := by
  obtain ⟨Q, hQ⟩ : ∃ Q, readD d o.name o.a o.n = Q := ⟨_, rfl⟩
  obtain ⟨mb, V, c, hco⟩ := h.co
  obtain ⟨vb, vk, rfl, hvb, hvk⟩ := hv.val
  obtain ⟨pb, cb, rfl, _, _⟩ := hvb.shape
  obtain ⟨pk, ck, hvk', hvk1, hvk2, hvk3, hvk4⟩ := id hvk
  rw [List.length_map] at hvk'
  subst hvk'
  obtain ⟨pl, cl, rfl, hlc, hcm⟩ := h.fi.shape
  obtain ⟨W0, hW0⟩ : ∃ W, (w.alloc (.cells (opCells o (.slice pb o.b.length cb) (.slice pk o.keep.length ck)) 39)).alloc (.cells #[.slice pl d.L.length cl, .int .i64 d.quota, .int .i64 d.armed, .bool d.stopped] 29) = W := ⟨_, rfl⟩
  have hb0 : Below w.heap.size w W0 := by rw [← hW0]; exact ((Below.refl _ _).alloc (Nat.le_refl _) _).alloc (by simp) _
  have hs0 : W0.heap.size = w.heap.size + 2 := by rw [← hW0]; simp
  have ho0 : W0.heap[w.heap.size]? = some (.cells (opCells o (.slice pb o.b.length cb) (.slice pk o.keep.length ck)) 39 (0, 0)) := by
    rw [← hW0]
    have h1 := heap_alloc_new w (.cells (opCells o (.slice pb o.b.length cb) (.slice pk o.keep.length ck)) 39)
    exact (((Below.refl _ _).alloc (Nat.le_refl _) _).block w.heap.size (by simp)).trans h1
  have hn0 : BoxAt W0 (w.heap.size + 1) (.slice pl d.L.length cl) d := by rw [← hW0]; exact two_new' w _ d
  have hgbw := h.bo.lt
  have hgS := h.gbS
  have hlow := h.low
  have hgA := h.gbA
  have hF := h.fits
  have harm := hco.arm1
  have hc0 := hco.below hb0
  have hbo0 : BothAt W0 gb g (.slice pl d.L.length cl) d := (hb0.block gb hgbw).trans h.bo
  have hfi0 : FilesIn (XS X S gb (w.heap.size + 1)) W0.heap.size W0 (.slice pl d.L.length cl) d.L := ((h.fi.below hb0).weak fun b hb hx => by
    rcases hx with hx | hx | hx | hx
    · exact .inl hx
    · exact .inr (.inl hx)
    · exact absurd hx (by omega)
    · exact .inr (.inr (.inr hx))).mono hb0.size
  have hA0 : A ≤ W0.heap.size := by omega
  have hvb0 := hvb.below (hb0.mono hA)
  have hvk0 := RowIn.below hvk (hb0.mono hA)
  have od := hv.d
  have oa0 := hv.a0
  have oa1 := hv.a1
  have on0 := hv.n0
  have on1 := hv.n1
  have ok := hv.k
  obtain ⟨SN, hSN⟩ : ∃ s : ByteArray, (⟨o.name.toArray⟩ : ByteArray) = s := ⟨_, rfl⟩
  obtain ⟨ST, hST⟩ : ∃ s : ByteArray, (⟨o.to_.toArray⟩ : ByteArray) = s := ⟨_, rfl⟩
  have e0 : W0.cell? ⟨w.heap.size, 0, none⟩ = some (.int .u8 (o.do_ : Int)) := by rw [cell_of_row _ _ 0 _ _ _ ho0]; rfl
  have e1 : W0.cell? ⟨w.heap.size, 1, none⟩ = some (.string SN) := by rw [cell_of_row _ _ 1 _ _ _ ho0, ← hSN]; rfl
  have e2 : W0.cell? ⟨w.heap.size, 2, none⟩ = some (.string ST) := by rw [cell_of_row _ _ 2 _ _ _ ho0, ← hST]; rfl
  have e3 : W0.cell? ⟨w.heap.size, 3, none⟩ = some (.slice pb o.b.length cb) := by rw [cell_of_row _ _ 3 _ _ _ ho0]; rfl
  have e4 : W0.cell? ⟨w.heap.size, 4, none⟩ = some (.int .i64 o.a) := by rw [cell_of_row _ _ 4 _ _ _ ho0]; rfl
  have e5 : W0.cell? ⟨w.heap.size, 5, none⟩ = some (.int .i64 o.n) := by rw [cell_of_row _ _ 5 _ _ _ ho0]; rfl
  have e6 : W0.cell? ⟨w.heap.size, 6, none⟩ = some (.slice pk o.keep.length ck) := by rw [cell_of_row _ _ 6 _ _ _ ho0]; rfl
  have E1 := Lib.hid e1
  have E2 := Lib.hid e2
  have E3 := Lib.hid e3
  have E4 := Lib.hid e4
  have E5 := Lib.hid e5
  have E6 := Lib.hid e6
  have HCO := Lib.hid hc0
  have HBO := Lib.hid hbo0
  have HFI := Lib.hid hfi0
  have HN := Lib.hid hn0
  have HVB := Lib.hid hvb0
  have HVK := Lib.hid hvk0
  have HSN := Lib.hid hSN
  have HST := Lib.hid hST
  have HB0 := Lib.hid (show Below A w W0 from hb0.mono hA)
  have HB00 := Lib.hid hb0
  have HF := Lib.hid hF
  have HGS := Lib.hid hgS
  have HLOW := Lib.hid hlow
  have hul := h.fits.used
  have HSL := Lib.hid hco.lt
  have HXL := Lib.hid hXl
  clear hXl
  have HOK := Lib.hid ok
  have i0 : w.heap[gb]? = some (.cells #[.pointer (some ⟨g, 0, none⟩), .slice pl d.L.length cl, .int .i64 d.quota, .int .i64 d.armed, .bool d.stopped] 35 (0, 0)) := h.bo
  have j0 := fun X => ((Below.refl w.heap.size w).alloc (Nat.le_refl _) X).cell (p := ⟨gb, 1, none⟩) hgbw |>.trans h.bo.b1
  have j1 := fun X => ((Below.refl w.heap.size w).alloc (Nat.le_refl _) X).cell (p := ⟨gb, 2, none⟩) hgbw |>.trans h.bo.b2
  have j2 := fun X => ((Below.refl w.heap.size w).alloc (Nat.le_refl _) X).cell (p := ⟨gb, 3, none⟩) hgbw |>.trans h.bo.b3
  have j3 := fun X => ((Below.refl w.heap.size w).alloc (Nat.le_refl _) X).cell (p := ⟨gb, 4, none⟩) hgbw |>.trans h.bo.b4
  have m1 : ((o.do_ : Int)).tmod 12 = 7 := by rw [Int.tmod_eq_emod_of_nonneg (by omega)]; omega
  have m2 : ((o.do_ : Int)) % 12 = 7 := by omega
  have HSIM := Lib.hid h
  have HS0 := Lib.hid hs0
  have HW0 := Lib.hid hW0
  unfold opCells at hW0 ⊢
  rw [hSN, hST] at hW0 ⊢
  clear h hv hvb hvk hvk1 hvk2 hvk3 hvk4 hco hb0 hc0 hbo0 hfi0 hvb0 hvk0 hSN hST hF hgS hlow ok hs0 ho0 hn0 i0 e1 e2 e3 e4 e5 e6
  go_enter Try.func12, Try.ntmps12
  go_wp2_with fail
  clear hW0
  have hsl := HSL.out
  have hs0 := HS0.out
  obtain ⟨wd, hwd⟩ : ∃ wd, W0.drew = wd := ⟨_, rfl⟩
  have hbd : Below W0.heap.size W0 wd := by rw [← hwd]; exact (Below.refl _ _).drew
  have hsd : wd.heap.size = W0.heap.size := by rw [← hwd]; rfl
  refine RK.begin_ (T := fun k => ¬ S k) [(0, true), (1, true), (2, true), (3, true), (4, true), (5, true), (6, true), (7, true), (8, true), (9, true), (10, false), (11, true), (12, true), (14, true), (13, true), (15, true)] (by kernel_rfl) (by kernel_rfl) rfl (by kernel_rfl) (fun _ _ d _ _ h => by cases d <;> exact h) ?_
  simp only [RK.ordered, List.map_cons, List.map_nil, List.getElem?_toArray, List.getElem?_cons_succ, List.getElem?_cons_zero]
  rw [hwd]
  have hcod := HCO.out.below hbd
  have hbod : BothAt wd gb g (.slice pl d.L.length cl) d := (hbd.block gb HBO.out.lt).trans HBO.out
  have HBD := Lib.hid hbod
  have hfid : FilesIn (XS X S gb (w.heap.size + 1)) wd.heap.size wd (.slice pl d.L.length cl) d.L := (HFI.out.below hbd).mono hbd.size
  have HCD := Lib.hid hcod
  have HFD := Lib.hid hfid
  have hgw : ¬ S w.heap.size := fun q => by have := hsl _ q; omega
  have hgn : ¬ S (w.heap.size + 1) := fun q => by have := hsl _ q; omega
  have hws : w.heap.size < wd.heap.size := by omega
  have b0 := fun W (hW : Kep (fun k => ¬ S k) wd W) => (show W.cell? ⟨gb, 0, none⟩ = some (.pointer (some ⟨g, 0, none⟩)) from (hW.cell HBD.out.lt HGS.out 0).trans HBD.out.b0)
  have r1 := fun W (hW : Kep (fun k => ¬ S k) wd W) => (show W.cell? ⟨w.heap.size, 1, none⟩ = some (.string SN) from (hW.cell hws hgw 1).trans ((hbd.cell (p := ⟨w.heap.size, 1, none⟩) (by show w.heap.size < _; omega)).trans E1.out))
  have r4 := fun W (hW : Kep (fun k => ¬ S k) wd W) => (show W.cell? ⟨w.heap.size, 4, none⟩ = some (.int .i64 o.a) from (hW.cell hws hgw 4).trans ((hbd.cell (p := ⟨w.heap.size, 4, none⟩) (by show w.heap.size < _; omega)).trans E4.out))
  have r5 := fun W (hW : Kep (fun k => ¬ S k) wd W) => (show W.cell? ⟨w.heap.size, 5, none⟩ = some (.int .i64 o.n) from (hW.cell hws hgw 5).trans ((hbd.cell (p := ⟨w.heap.size, 5, none⟩) (by show w.heap.size < _; omega)).trans E5.out))
  have HSDD := Lib.hid hsd
  clear hwd hcod hbod hfid hsd hs0 hsl
  repeat (refine RK.take (by rfl) (by intro W hW; go_simp; with_reducible rfl) ?_; simp only [Act.put, List.setIfInBounds_toArray, List.set_cons_zero, List.set_cons_succ])
  clear b0 r1 r4 r5
  have hcall := cread_any S g mb V c d o.name o.a o.n wd HCD.out HF.out (by omega) oa0 oa1 on0 on1
  rw [cread_eq, hQ, HSN.out] at hcall
  refine RK.alone (by rfl) (fun K hK => ?_)
  go_simp
  refine hcall.mono ?_
  rintro e w1 ⟨v1, rfl, hr1, hb1⟩
  go_simp
  refine hK.out _ _ (kep_below _ hb1) ?_
  clear hK K hcall
  repeat (refine RK.take (by rfl) (by intro W hW; go_simp; with_reducible rfl) ?_; simp only [Act.put, List.setIfInBounds_toArray, List.set_cons_zero, List.set_cons_succ])
  refine RK.done ?_
  have hsd := HSDD.out
  have hs0 := HS0.out
  have hb01 : Below W0.heap.size W0 w1 := hbd.trans (hb1.mono (by omega))
  have hbw1 : Below w.heap.size w w1 := HB00.out.trans (hb01.mono (by omega))
  have hbo1 : BothAt w1 gb g (.slice pl d.L.length cl) d := (hb1.block gb HBD.out.lt).trans HBD.out
  have hs1 := hb01.size
  have HS1 := Lib.hid hs1
  have HBO1 := Lib.hid hbo1
  have HBW1 := Lib.hid hbw1
  have HR1 := Lib.hid hr1
  have HE1 := Lib.hid (show w1.cell? ⟨w.heap.size, 1, none⟩ = some (.string SN) from (hb01.cell (p := ⟨w.heap.size, 1, none⟩) (by show w.heap.size < _; omega)).trans E1.out)
  have HE4 := Lib.hid (show w1.cell? ⟨w.heap.size, 4, none⟩ = some (.int .i64 o.a) from (hb01.cell (p := ⟨w.heap.size, 4, none⟩) (by show w.heap.size < _; omega)).trans E4.out)
  have HE5 := Lib.hid (show w1.cell? ⟨w.heap.size, 5, none⟩ = some (.int .i64 o.n) from (hb01.cell (p := ⟨w.heap.size, 5, none⟩) (by show w.heap.size < _; omega)).trans E5.out)
  clear hbd hb1 hbo1 hr1 hbw1 hb01 hgn hgw hws hsd hs0 hs1
  go_wp2_with fail
  obtain ⟨wq, hwq⟩ : ∃ wd, w1.drew = wd := ⟨_, rfl⟩
  have hbq : Below w1.heap.size w1 wq := by rw [← hwq]; exact (Below.refl _ _).drew
  have hsq : wq.heap.size = w1.heap.size := by rw [← hwq]; rfl
  refine RK.begin_ (T := fun k => k ≠ w.heap.size + 1) [(0, true), (1, true), (2, true), (3, true), (4, true), (5, true), (6, true), (7, true), (8, true), (9, true), (10, false), (11, true), (12, true), (14, true), (13, true), (15, true)] (by kernel_rfl) (by kernel_rfl) rfl (by kernel_rfl) (fun _ _ d _ _ h => by cases d <;> exact h) ?_
  simp only [RK.ordered, List.map_cons, List.map_nil, List.getElem?_toArray, List.getElem?_cons_succ, List.getElem?_cons_zero]
  rw [hwq]
  have hbo2 : BothAt wq gb g (.slice pl d.L.length cl) d := (hbq.block gb HBO1.out.lt).trans HBO1.out
  have HBO2 := Lib.hid hbo2
  have hws : w.heap.size < w1.heap.size := by have := HS1.out; have := HS0.out; omega
  have hgn : gb ≠ w.heap.size + 1 := by omega
  have b1 := fun W (hW : Kep (fun k => k ≠ w.heap.size + 1) wq W) => (show W.cell? ⟨gb, 1, none⟩ = _ from (hW.cell HBO2.out.lt hgn 1).trans HBO2.out.b1)
  have b2 := fun W (hW : Kep (fun k => k ≠ w.heap.size + 1) wq W) => (show W.cell? ⟨gb, 2, none⟩ = _ from (hW.cell HBO2.out.lt hgn 2).trans HBO2.out.b2)
  have b3 := fun W (hW : Kep (fun k => k ≠ w.heap.size + 1) wq W) => (show W.cell? ⟨gb, 3, none⟩ = _ from (hW.cell HBO2.out.lt hgn 3).trans HBO2.out.b3)
  have b4 := fun W (hW : Kep (fun k => k ≠ w.heap.size + 1) wq W) => (show W.cell? ⟨gb, 4, none⟩ = _ from (hW.cell HBO2.out.lt hgn 4).trans HBO2.out.b4)
  have r1 := fun W (hW : Kep (fun k => k ≠ w.heap.size + 1) wq W) => (show W.cell? ⟨w.heap.size, 1, none⟩ = some (.string SN) from (hW.cell (by omega) (by omega) 1).trans ((hbq.cell (p := ⟨w.heap.size, 1, none⟩) hws).trans HE1.out))
  have r4 := fun W (hW : Kep (fun k => k ≠ w.heap.size + 1) wq W) => (show W.cell? ⟨w.heap.size, 4, none⟩ = some (.int .i64 o.a) from (hW.cell (by omega) (by omega) 4).trans ((hbq.cell (p := ⟨w.heap.size, 4, none⟩) hws).trans HE4.out))
  have r5 := fun W (hW : Kep (fun k => k ≠ w.heap.size + 1) wq W) => (show W.cell? ⟨w.heap.size, 5, none⟩ = some (.int .i64 o.n) from (hW.cell (by omega) (by omega) 5).trans ((hbq.cell (p := ⟨w.heap.size, 5, none⟩) hws).trans HE5.out))
  clear hwq hbo2
  repeat (refine RK.take (by rfl) (by intro W hW; go_simp; with_reducible rfl) ?_; simp only [Act.put, List.setIfInBounds_toArray, List.set_cons_zero, List.set_cons_succ])
  clear b1 b2 b3 b4 r1 r4 r5
  have hll : d.L.length ≤ 1000000 := by have := HF.out.len; omega
  have hbb : ∀ g ∈ d.L, g.b.length ≤ 1000000000 := fun x hx => by have := HF.out.bytes x hx; omega
  have hfiq : FilesIn (XS X S gb gb) w.heap.size wq (.slice pl d.L.length cl) d.L := (HSIM.out.fi.below HBW1.out).below (hbq.mono (by omega))
  have hcall := rread_any w.heap.size (.slice pl d.L.length cl) d o.name o.a o.n wq hfiq (by omega) hll (by omega) hbb oa0 oa1 on0 on1
  rw [hQ, HSN.out] at hcall
  refine RK.alone (by rfl) (fun K hK => ?_)
  go_simp
  refine hcall.mono ?_
  rintro e w2 ⟨v2, rfl, hr2, hb2⟩
  go_simp
  refine hK.out _ _ (kep_below _ hb2) ?_
  clear hK K hcall
  repeat (refine RK.take (by rfl) (by intro W hW; go_simp; with_reducible rfl) ?_; simp only [Act.put, List.setIfInBounds_toArray, List.set_cons_zero, List.set_cons_succ])
  refine RK.done ?_
  have hbw2 : Below w.heap.size w w2 := HBW1.out.trans ((hbq.mono (by omega)).trans (hb2.mono (by omega)))
  have hc1 := (HR1.out.below (hbq.trans (hb2.mono (by omega)))).conv
  have hc2 := hr2.conv
  have HFIN := Lib.hid (show StepC X A S gb d w (.returned (.bool true)) w2 from ⟨rfl, S, g, _, HSIM.out.below hbw2, hbw2.mono hA, kep_below _ hbw2, fun k h => .inl h⟩)
  clear hbw2 hr2 hb2 hbq hll hbb hfiq hsq hws hgn
  go_wp2_with fail
  go_ret
  exact HFIN.out
end Go.Proofs.Ytljfpolcgegkpaa.DK

/-
  An op done on both disks: Quota. Conditions: names and bytes as short leaves them; what the op holds lies below block A.
-/
namespace Go.Proofs.Ytljfpolcgegkpaa.DK
open Go.RowKit Go.Proofs.Ytljfpolcgegkpaa.MM Go.Maps
variable {X : Nat → Prop}

set_option maxRecDepth 100000 in
set_option maxHeartbeats 2000000 in
theorem step_quota (A gb g : Nat) (S : Nat → Prop) (L : Value) (d : DiskD) (v : Value) (o : OpD) (w : World) (h : Sim X A S w gb g L d) (hv : OpIn A w v o) (hA : A ≤ w.heap.size) (hnl : o.name.length ≤ 70) (htl : o.to_.length ≤ 70) (hbl : o.b.length ≤ 100) (hkl : o.keep.length ≤ 10) (hXl : ∀ k, X k → k < w.heap.size) (hm : o.do_ % 12 = 10) (h0 : 0 ≤ o.a) :
    Calls Try.prog 12 #[.pointer (some ⟨gb, 0, none⟩), v] w (StepC X A S gb ({ d with quota := o.a } : DiskD) w) := by
  obtain ⟨R, hR1⟩ : ∃ R : DiskD, ({ d with quota := o.a } : DiskD) = R := ⟨_, rfl⟩
  have hfr : Fits R := hR1 ▸ quota_fits o.a h.fits h0 hv.a1
  have hq : R.quota = o.a := by rw [← hR1]
  have ha : R.armed = d.armed := by rw [← hR1]
  have hs : R.stopped = d.stopped := by rw [← hR1]
  have hl : R.L = d.L := by rw [← hR1]
  rw [hR1]
  obtain ⟨mb, V, c, hco⟩ := h.co
  obtain ⟨vb, vk, rfl, hvb, hvk⟩ := hv.val
  obtain ⟨pb, cb, rfl, _, _⟩ := hvb.shape
  obtain ⟨pk, ck, hvk', hvk1, hvk2, hvk3, hvk4⟩ := id hvk
  rw [List.length_map] at hvk'
  subst hvk'
  obtain ⟨pl, cl, rfl, hlc, hcm⟩ := h.fi.shape
  obtain ⟨W0, hW0⟩ : ∃ W, (w.alloc (.cells (opCells o (.slice pb o.b.length cb) (.slice pk o.keep.length ck)) 39)).alloc (.cells #[.slice pl d.L.length cl, .int .i64 d.quota, .int .i64 d.armed, .bool d.stopped] 29) = W := ⟨_, rfl⟩
  have hb0 : Below w.heap.size w W0 := by rw [← hW0]; exact ((Below.refl _ _).alloc (Nat.le_refl _) _).alloc (by simp) _
  have hs0 : W0.heap.size = w.heap.size + 2 := by rw [← hW0]; simp
  have ho0 : W0.heap[w.heap.size]? = some (.cells (opCells o (.slice pb o.b.length cb) (.slice pk o.keep.length ck)) 39 (0, 0)) := by
    rw [← hW0]
    have h1 := heap_alloc_new w (.cells (opCells o (.slice pb o.b.length cb) (.slice pk o.keep.length ck)) 39)
    exact (((Below.refl _ _).alloc (Nat.le_refl _) _).block w.heap.size (by simp)).trans h1
  have hn0 : BoxAt W0 (w.heap.size + 1) (.slice pl d.L.length cl) d := by rw [← hW0]; exact two_new' w _ d
  have hgbw := h.bo.lt
  have hgS := h.gbS
  have hlow := h.low
  have hgA := h.gbA
  have hF := h.fits
  have harm := hco.arm1
  have hc0 := hco.below hb0
  have hbo0 : BothAt W0 gb g (.slice pl d.L.length cl) d := (hb0.block gb hgbw).trans h.bo
  have hfi0 : FilesIn (XS X S gb (w.heap.size + 1)) W0.heap.size W0 (.slice pl d.L.length cl) d.L := ((h.fi.below hb0).weak fun b hb hx => by
    rcases hx with hx | hx | hx | hx
    · exact .inl hx
    · exact .inr (.inl hx)
    · exact absurd hx (by omega)
    · exact .inr (.inr (.inr hx))).mono hb0.size
  have hA0 : A ≤ W0.heap.size := by omega
  have hvb0 := hvb.below (hb0.mono hA)
  have hvk0 := RowIn.below hvk (hb0.mono hA)
  have od := hv.d
  have oa0 := hv.a0
  have oa1 := hv.a1
  have on0 := hv.n0
  have on1 := hv.n1
  have ok := hv.k
  obtain ⟨SN, hSN⟩ : ∃ s : ByteArray, (⟨o.name.toArray⟩ : ByteArray) = s := ⟨_, rfl⟩
  obtain ⟨ST, hST⟩ : ∃ s : ByteArray, (⟨o.to_.toArray⟩ : ByteArray) = s := ⟨_, rfl⟩
  have e0 : W0.cell? ⟨w.heap.size, 0, none⟩ = some (.int .u8 (o.do_ : Int)) := by rw [cell_of_row _ _ 0 _ _ _ ho0]; rfl
  have e1 : W0.cell? ⟨w.heap.size, 1, none⟩ = some (.string SN) := by rw [cell_of_row _ _ 1 _ _ _ ho0, ← hSN]; rfl
  have e2 : W0.cell? ⟨w.heap.size, 2, none⟩ = some (.string ST) := by rw [cell_of_row _ _ 2 _ _ _ ho0, ← hST]; rfl
  have e3 : W0.cell? ⟨w.heap.size, 3, none⟩ = some (.slice pb o.b.length cb) := by rw [cell_of_row _ _ 3 _ _ _ ho0]; rfl
  have e4 : W0.cell? ⟨w.heap.size, 4, none⟩ = some (.int .i64 o.a) := by rw [cell_of_row _ _ 4 _ _ _ ho0]; rfl
  have e5 : W0.cell? ⟨w.heap.size, 5, none⟩ = some (.int .i64 o.n) := by rw [cell_of_row _ _ 5 _ _ _ ho0]; rfl
  have e6 : W0.cell? ⟨w.heap.size, 6, none⟩ = some (.slice pk o.keep.length ck) := by rw [cell_of_row _ _ 6 _ _ _ ho0]; rfl
  have E1 := Lib.hid e1
  have E2 := Lib.hid e2
  have E3 := Lib.hid e3
  have E4 := Lib.hid e4
  have E5 := Lib.hid e5
  have E6 := Lib.hid e6
  have HCO := Lib.hid hc0
  have HBO := Lib.hid hbo0
  have HFI := Lib.hid hfi0
  have HN := Lib.hid hn0
  have HVB := Lib.hid hvb0
  have HVK := Lib.hid hvk0
  have HSN := Lib.hid hSN
  have HST := Lib.hid hST
  have HB0 := Lib.hid (show Below A w W0 from hb0.mono hA)
  have HB00 := Lib.hid hb0
  have HF := Lib.hid hF
  have HGS := Lib.hid hgS
  have HLOW := Lib.hid hlow
  have hul := h.fits.used
  have HSL := Lib.hid hco.lt
  have HXL := Lib.hid hXl
  clear hXl
  have HOK := Lib.hid ok
  have i0 : w.heap[gb]? = some (.cells #[.pointer (some ⟨g, 0, none⟩), .slice pl d.L.length cl, .int .i64 d.quota, .int .i64 d.armed, .bool d.stopped] 35 (0, 0)) := h.bo
  have j0 := fun X => ((Below.refl w.heap.size w).alloc (Nat.le_refl _) X).cell (p := ⟨gb, 1, none⟩) hgbw |>.trans h.bo.b1
  have j1 := fun X => ((Below.refl w.heap.size w).alloc (Nat.le_refl _) X).cell (p := ⟨gb, 2, none⟩) hgbw |>.trans h.bo.b2
  have j2 := fun X => ((Below.refl w.heap.size w).alloc (Nat.le_refl _) X).cell (p := ⟨gb, 3, none⟩) hgbw |>.trans h.bo.b3
  have j3 := fun X => ((Below.refl w.heap.size w).alloc (Nat.le_refl _) X).cell (p := ⟨gb, 4, none⟩) hgbw |>.trans h.bo.b4
  have m1 : ((o.do_ : Int)).tmod 12 = 10 := by rw [Int.tmod_eq_emod_of_nonneg (by omega)]; omega
  have m2 : ((o.do_ : Int)) % 12 = 10 := by omega
  have t1 : decide (o.a < 0) = false := by rw [decide_eq_false_iff_not]; omega
  have HS0 := Lib.hid hs0
  have HW0 := Lib.hid hW0
  unfold opCells at hW0 ⊢
  rw [hSN, hST] at hW0 ⊢
  clear h hv hvb hvk hvk1 hvk2 hvk3 hvk4 hco hb0 hc0 hbo0 hfi0 hvb0 hvk0 hSN hST hF hgS hlow ok hs0 ho0 hn0 i0 e1 e2 e3 e4 e5 e6
  go_enter Try.func12, Try.ntmps12
  go_wp2_with fail
  clear hW0
  have hsl := HSL.out
  have hs0 := HS0.out
  obtain ⟨wd, hwd⟩ : ∃ wd, W0.drew = wd := ⟨_, rfl⟩
  have hbd : Below W0.heap.size W0 wd := by rw [← hwd]; exact (Below.refl _ _).drew
  have hsd : wd.heap.size = W0.heap.size := by rw [← hwd]; rfl
  refine RK.begin_ (T := fun k => ¬ S k) [(0, true), (1, true), (2, true), (3, true), (4, true), (5, true), (6, false), (7, true)] (by kernel_rfl) (by kernel_rfl) rfl (by kernel_rfl) (fun _ _ d _ _ h => by cases d <;> exact h) ?_
  simp only [RK.ordered, List.map_cons, List.map_nil, List.getElem?_toArray, List.getElem?_cons_succ, List.getElem?_cons_zero]
  rw [hwd]
  have hcod := HCO.out.below hbd
  have hbod : BothAt wd gb g (.slice pl d.L.length cl) d := (hbd.block gb HBO.out.lt).trans HBO.out
  have HBD := Lib.hid hbod
  have hfid : FilesIn (XS X S gb (w.heap.size + 1)) wd.heap.size wd (.slice pl d.L.length cl) d.L := (HFI.out.below hbd).mono hbd.size
  have HCD := Lib.hid hcod
  have HFD := Lib.hid hfid
  have hgw : ¬ S w.heap.size := fun q => by have := hsl _ q; omega
  have hgn : ¬ S (w.heap.size + 1) := fun q => by have := hsl _ q; omega
  have hws : w.heap.size < wd.heap.size := by omega
  have b0 := fun W (hW : Kep (fun k => ¬ S k) wd W) => (show W.cell? ⟨gb, 0, none⟩ = some (.pointer (some ⟨g, 0, none⟩)) from (hW.cell HBD.out.lt HGS.out 0).trans HBD.out.b0)
  have r4 := fun W (hW : Kep (fun k => ¬ S k) wd W) => (show W.cell? ⟨w.heap.size, 4, none⟩ = some (.int .i64 o.a) from (hW.cell hws hgw 4).trans ((hbd.cell (p := ⟨w.heap.size, 4, none⟩) (by show w.heap.size < _; omega)).trans E4.out))
  have HSDD := Lib.hid hsd
  clear hwd hcod hbod hfid hsd hs0 hsl
  repeat (refine RK.take (by rfl) (by intro W hW; go_simp; with_reducible rfl) ?_; simp only [Act.put, List.setIfInBounds_toArray, List.set_cons_zero, List.set_cons_succ])
  clear b0 r4
  have hcall := cquota_any S g mb V c o.a d wd HCD.out h0
  refine RK.alone (by rfl) (fun K hK => ?_)
  go_simp
  refine hcall.mono ?_
  rintro e w1 ⟨rfl, S0, V0, c0, hco0, hx0⟩
  go_simp
  obtain ⟨S1, V1, c1, hco1, hx1⟩ : ∃ S1 V1 c1, CObj S1 w1 g mb V1 c1 R ∧ Ext S S1 wd w1 := ⟨S0, V0, c0, by rw [← hR1]; exact hco0, hx0⟩
  clear hco0 hx0
  refine hK.out _ _ hx1.kep ?_
  clear hK K hcall
  repeat (refine RK.take (by rfl) (by intro W hW; go_simp; with_reducible rfl) ?_; simp only [Act.put, List.setIfInBounds_toArray, List.set_cons_zero, List.set_cons_succ])
  refine RK.done ?_
  have hsd := HSDD.out
  have hs0 := HS0.out
  obtain ⟨hbo1, hfi1, hgS1⟩ := Sim.ext (A := A) HBD.out HFD.out HGS.out hx1
  have hk1 := hx1.kep
  have hs1 := hk1.size
  have hnS1 : ¬ S1 (w.heap.size + 1) := fun q => (hx1.new _ q).elim hgn (fun q => by omega)
  obtain ⟨hlow1, hbA1⟩ := low_ext hx1 HLOW.out (by omega : A ≤ wd.heap.size)
  have hbw1 : Below A w w1 := (HB0.out.trans (hbd.mono (by omega))).trans hbA1
  have hn1 : BoxAt w1 (w.heap.size + 1) (.slice pl d.L.length cl) d := (hk1.block _ (by omega) hgn).trans ((hbd.block _ HN.out.lt).trans HN.out)
  have hfi1 : FilesIn (XS X S1 gb (w.heap.size + 1)) w1.heap.size w1 (.slice pl d.L.length cl) d.L := hfi1.mono hs1
  have HE4 := Lib.hid (show w1.cell? ⟨w.heap.size, 4, none⟩ = some (.int .i64 o.a) from (hk1.cell hws hgw 4).trans ((hbd.cell (p := ⟨w.heap.size, 4, none⟩) (by show w.heap.size < _; omega)).trans E4.out))
  have HBO1 := Lib.hid hbo1
  have HFI1 := Lib.hid hfi1
  have HCO1 := Lib.hid hco1
  have HN1 := Lib.hid hn1
  have HGS1 := Lib.hid hgS1
  have HNS1 := Lib.hid hnS1
  have HLOW1 := Lib.hid hlow1
  have HBW1 := Lib.hid hbw1
  have HS1 := Lib.hid hs1
  have HNE := Lib.hid (show ∀ k, S1 k → S k ∨ w.heap.size ≤ k from fun k hk => (hx1.new k hk).imp id fun q => by omega)
  have KEP1 := Lib.hid (((kep_below (fun k => ¬ S k) HB00.out).trans (kep_below _ hbd)).trans hk1)
  have HVB1 := Lib.hid (BIn.below HVB.out ((hbd.mono (by omega)).trans hbA1))
  have HVK1 := Lib.hid (RowIn.below HVK.out ((hbd.mono (by omega)).trans hbA1))
  clear hbd hbo1 hfi1 hco1 hn1 hgS1 hnS1 hlow1 hbw1 hbA1 hx1 hk1 hgn hgw hws hsd hs0 hs1
  have hgn : gb ≠ w.heap.size + 1 := by omega
  have hn1 := HN1.out
  have z1 : BoxAt (w1.setCell ⟨w.heap.size + 1, 1, none⟩ (.int .i64 o.a)) (w.heap.size + 1) (.slice pl d.L.length cl) R := by
    rw [← hR1]
    exact heap_setCell_same w1 (w.heap.size + 1) 1 _ _ (.int .i64 o.a) hn1
  have k1 : Kep (fun b => b ≠ w.heap.size + 1) w1 (w1.setCell ⟨w.heap.size + 1, 1, none⟩ (.int .i64 o.a)) := kep_set (fun h => h rfl) _
  obtain ⟨z2, z3, z4⟩ := sim_put (A := A) HCO1.out HBO1.out k1 (by rw [hl]; exact HFI1.out) HGS1.out HNS1.out hgn HLOW1.out hgA (by omega) hfr
  have HFIN := Lib.hid (show StepC X A S gb R w (.returned (.bool true)) (putBoth (w1.setCell ⟨w.heap.size + 1, 1, none⟩ (.int .i64 o.a)) gb (.slice pl d.L.length cl) R) from ⟨rfl, S1, g, _, z3, HBW1.out.trans z4, kep_end2 KEP1.out k1 (by omega), HNE.out⟩)
  unfold putBoth at HFIN
  have y0 := z1.files
  have y1 := z1.quota
  have y2 := z1.armed
  have y3 := z1.stopped
  have x1 := z2.b1
  have x2 := z2.b2
  have x3 := z2.b3
  have x4 := z2.b4
  have xf := fun k => z2.free k
  have yf := hn1.free 1
  have g4 := HE4.out
  have n1 := hn1.quota
  rw [hq] at y1
  rw [ha] at y2
  rw [hs] at y3
  rw [hq, ha, hs] at HFIN
  clear z1 z2 z3 z4 k1 hn1 hfr hq ha hs hl hR1
  go_wp2_with fail
  go_ret
  exact HFIN.out
end Go.Proofs.Ytljfpolcgegkpaa.DK

/-
  An op done on both disks: Quota, refused. Conditions: names and bytes as short leaves them; what the op holds lies below block A.
-/
namespace Go.Proofs.Ytljfpolcgegkpaa.DK
open Go.RowKit Go.Proofs.Ytljfpolcgegkpaa.MM Go.Maps
variable {X : Nat → Prop}

set_option maxRecDepth 100000 in
set_option maxHeartbeats 2000000 in
theorem step_quota_neg (A gb g : Nat) (S : Nat → Prop) (L : Value) (d : DiskD) (v : Value) (o : OpD) (w : World) (h : Sim X A S w gb g L d) (hv : OpIn A w v o) (hA : A ≤ w.heap.size) (hnl : o.name.length ≤ 70) (htl : o.to_.length ≤ 70) (hbl : o.b.length ≤ 100) (hkl : o.keep.length ≤ 10) (hXl : ∀ k, X k → k < w.heap.size) (hm : o.do_ % 12 = 10) (h0 : o.a < 0) :
    Calls Try.prog 12 #[.pointer (some ⟨gb, 0, none⟩), v] w (StepC X A S gb d w) := by
  obtain ⟨R, hR1⟩ : ∃ R : DiskD, d = R := ⟨_, rfl⟩
  have hfr : Fits R := hR1 ▸ h.fits
  have hq : R.quota = d.quota := by rw [← hR1]
  have ha : R.armed = d.armed := by rw [← hR1]
  have hs : R.stopped = d.stopped := by rw [← hR1]
  have hl : R.L = d.L := by rw [← hR1]
  rw [hR1]
  obtain ⟨mb, V, c, hco⟩ := h.co
  obtain ⟨vb, vk, rfl, hvb, hvk⟩ := hv.val
  obtain ⟨pb, cb, rfl, _, _⟩ := hvb.shape
  obtain ⟨pk, ck, hvk', hvk1, hvk2, hvk3, hvk4⟩ := id hvk
  rw [List.length_map] at hvk'
  subst hvk'
  obtain ⟨pl, cl, rfl, hlc, hcm⟩ := h.fi.shape
  obtain ⟨W0, hW0⟩ : ∃ W, (w.alloc (.cells (opCells o (.slice pb o.b.length cb) (.slice pk o.keep.length ck)) 39)).alloc (.cells #[.slice pl d.L.length cl, .int .i64 d.quota, .int .i64 d.armed, .bool d.stopped] 29) = W := ⟨_, rfl⟩
  have hb0 : Below w.heap.size w W0 := by rw [← hW0]; exact ((Below.refl _ _).alloc (Nat.le_refl _) _).alloc (by simp) _
  have hs0 : W0.heap.size = w.heap.size + 2 := by rw [← hW0]; simp
  have ho0 : W0.heap[w.heap.size]? = some (.cells (opCells o (.slice pb o.b.length cb) (.slice pk o.keep.length ck)) 39 (0, 0)) := by
    rw [← hW0]
    have h1 := heap_alloc_new w (.cells (opCells o (.slice pb o.b.length cb) (.slice pk o.keep.length ck)) 39)
    exact (((Below.refl _ _).alloc (Nat.le_refl _) _).block w.heap.size (by simp)).trans h1
  have hn0 : BoxAt W0 (w.heap.size + 1) (.slice pl d.L.length cl) d := by rw [← hW0]; exact two_new' w _ d
  have hgbw := h.bo.lt
  have hgS := h.gbS
  have hlow := h.low
  have hgA := h.gbA
  have hF := h.fits
  have harm := hco.arm1
  have hc0 := hco.below hb0
  have hbo0 : BothAt W0 gb g (.slice pl d.L.length cl) d := (hb0.block gb hgbw).trans h.bo
  have hfi0 : FilesIn (XS X S gb (w.heap.size + 1)) W0.heap.size W0 (.slice pl d.L.length cl) d.L := ((h.fi.below hb0).weak fun b hb hx => by
    rcases hx with hx | hx | hx | hx
    · exact .inl hx
    · exact .inr (.inl hx)
    · exact absurd hx (by omega)
    · exact .inr (.inr (.inr hx))).mono hb0.size
  have hA0 : A ≤ W0.heap.size := by omega
  have hvb0 := hvb.below (hb0.mono hA)
  have hvk0 := RowIn.below hvk (hb0.mono hA)
  have od := hv.d
  have oa0 := hv.a0
  have oa1 := hv.a1
  have on0 := hv.n0
  have on1 := hv.n1
  have ok := hv.k
  obtain ⟨SN, hSN⟩ : ∃ s : ByteArray, (⟨o.name.toArray⟩ : ByteArray) = s := ⟨_, rfl⟩
  obtain ⟨ST, hST⟩ : ∃ s : ByteArray, (⟨o.to_.toArray⟩ : ByteArray) = s := ⟨_, rfl⟩
  have e0 : W0.cell? ⟨w.heap.size, 0, none⟩ = some (.int .u8 (o.do_ : Int)) := by rw [cell_of_row _ _ 0 _ _ _ ho0]; rfl
  have e1 : W0.cell? ⟨w.heap.size, 1, none⟩ = some (.string SN) := by rw [cell_of_row _ _ 1 _ _ _ ho0, ← hSN]; rfl
  have e2 : W0.cell? ⟨w.heap.size, 2, none⟩ = some (.string ST) := by rw [cell_of_row _ _ 2 _ _ _ ho0, ← hST]; rfl
  have e3 : W0.cell? ⟨w.heap.size, 3, none⟩ = some (.slice pb o.b.length cb) := by rw [cell_of_row _ _ 3 _ _ _ ho0]; rfl
  have e4 : W0.cell? ⟨w.heap.size, 4, none⟩ = some (.int .i64 o.a) := by rw [cell_of_row _ _ 4 _ _ _ ho0]; rfl
  have e5 : W0.cell? ⟨w.heap.size, 5, none⟩ = some (.int .i64 o.n) := by rw [cell_of_row _ _ 5 _ _ _ ho0]; rfl
  have e6 : W0.cell? ⟨w.heap.size, 6, none⟩ = some (.slice pk o.keep.length ck) := by rw [cell_of_row _ _ 6 _ _ _ ho0]; rfl
  have E1 := Lib.hid e1
  have E2 := Lib.hid e2
  have E3 := Lib.hid e3
  have E4 := Lib.hid e4
  have E5 := Lib.hid e5
  have E6 := Lib.hid e6
  have HCO := Lib.hid hc0
  have HBO := Lib.hid hbo0
  have HFI := Lib.hid hfi0
  have HN := Lib.hid hn0
  have HVB := Lib.hid hvb0
  have HVK := Lib.hid hvk0
  have HSN := Lib.hid hSN
  have HST := Lib.hid hST
  have HB0 := Lib.hid (show Below A w W0 from hb0.mono hA)
  have HB00 := Lib.hid hb0
  have HF := Lib.hid hF
  have HGS := Lib.hid hgS
  have HLOW := Lib.hid hlow
  have hul := h.fits.used
  have HSL := Lib.hid hco.lt
  have HXL := Lib.hid hXl
  clear hXl
  have HOK := Lib.hid ok
  have i0 : w.heap[gb]? = some (.cells #[.pointer (some ⟨g, 0, none⟩), .slice pl d.L.length cl, .int .i64 d.quota, .int .i64 d.armed, .bool d.stopped] 35 (0, 0)) := h.bo
  have j0 := fun X => ((Below.refl w.heap.size w).alloc (Nat.le_refl _) X).cell (p := ⟨gb, 1, none⟩) hgbw |>.trans h.bo.b1
  have j1 := fun X => ((Below.refl w.heap.size w).alloc (Nat.le_refl _) X).cell (p := ⟨gb, 2, none⟩) hgbw |>.trans h.bo.b2
  have j2 := fun X => ((Below.refl w.heap.size w).alloc (Nat.le_refl _) X).cell (p := ⟨gb, 3, none⟩) hgbw |>.trans h.bo.b3
  have j3 := fun X => ((Below.refl w.heap.size w).alloc (Nat.le_refl _) X).cell (p := ⟨gb, 4, none⟩) hgbw |>.trans h.bo.b4
  have m1 : ((o.do_ : Int)).tmod 12 = 10 := by rw [Int.tmod_eq_emod_of_nonneg (by omega)]; omega
  have m2 : ((o.do_ : Int)) % 12 = 10 := by omega
  have t1 : decide (o.a < 0) = true := by rw [decide_eq_true_eq]; omega
  have HS0 := Lib.hid hs0
  have HW0 := Lib.hid hW0
  unfold opCells at hW0 ⊢
  rw [hSN, hST] at hW0 ⊢
  clear h hv hvb hvk hvk1 hvk2 hvk3 hvk4 hco hb0 hc0 hbo0 hfi0 hvb0 hvk0 hSN hST hF hgS hlow ok hs0 ho0 hn0 i0 e1 e2 e3 e4 e5 e6
  go_enter Try.func12, Try.ntmps12
  go_wp2_with fail
  clear hW0
  have hsl := HSL.out
  have hs0 := HS0.out
  obtain ⟨wd, hwd⟩ : ∃ wd, W0.drew = wd := ⟨_, rfl⟩
  have hbd : Below W0.heap.size W0 wd := by rw [← hwd]; exact (Below.refl _ _).drew
  have hsd : wd.heap.size = W0.heap.size := by rw [← hwd]; rfl
  refine RK.begin_ (T := fun k => ¬ S k) [(0, true), (1, true), (2, true), (3, true), (4, true), (5, true), (6, false), (7, true)] (by kernel_rfl) (by kernel_rfl) rfl (by kernel_rfl) (fun _ _ d _ _ h => by cases d <;> exact h) ?_
  simp only [RK.ordered, List.map_cons, List.map_nil, List.getElem?_toArray, List.getElem?_cons_succ, List.getElem?_cons_zero]
  rw [hwd]
  have hcod := HCO.out.below hbd
  have hbod : BothAt wd gb g (.slice pl d.L.length cl) d := (hbd.block gb HBO.out.lt).trans HBO.out
  have HBD := Lib.hid hbod
  have hfid : FilesIn (XS X S gb (w.heap.size + 1)) wd.heap.size wd (.slice pl d.L.length cl) d.L := (HFI.out.below hbd).mono hbd.size
  have HCD := Lib.hid hcod
  have HFD := Lib.hid hfid
  have hgw : ¬ S w.heap.size := fun q => by have := hsl _ q; omega
  have hgn : ¬ S (w.heap.size + 1) := fun q => by have := hsl _ q; omega
  have hws : w.heap.size < wd.heap.size := by omega
  have b0 := fun W (hW : Kep (fun k => ¬ S k) wd W) => (show W.cell? ⟨gb, 0, none⟩ = some (.pointer (some ⟨g, 0, none⟩)) from (hW.cell HBD.out.lt HGS.out 0).trans HBD.out.b0)
  have r4 := fun W (hW : Kep (fun k => ¬ S k) wd W) => (show W.cell? ⟨w.heap.size, 4, none⟩ = some (.int .i64 o.a) from (hW.cell hws hgw 4).trans ((hbd.cell (p := ⟨w.heap.size, 4, none⟩) (by show w.heap.size < _; omega)).trans E4.out))
  have HSDD := Lib.hid hsd
  clear hwd hcod hbod hfid hsd hs0 hsl
  repeat (refine RK.take (by rfl) (by intro W hW; go_simp; with_reducible rfl) ?_; simp only [Act.put, List.setIfInBounds_toArray, List.set_cons_zero, List.set_cons_succ])
  clear b0 r4
  have hcall := cquota_neg S g mb V c o.a d wd HCD.out h0
  refine RK.alone (by rfl) (fun K hK => ?_)
  go_simp
  refine hcall.mono ?_
  rintro e w1 ⟨rfl, hw1⟩
  go_simp
  obtain ⟨S1, V1, c1, hco1, hx1⟩ : ∃ S1 V1 c1, CObj S1 w1 g mb V1 c1 R ∧ Ext S S1 wd w1 := ⟨S, V, c, by rw [← hR1, ← hw1]; exact HCD.out, by rw [← hw1]; exact Ext.refl_ (Kep.refl _ _)⟩
  clear hw1
  refine hK.out _ _ hx1.kep ?_
  clear hK K hcall
  repeat (refine RK.take (by rfl) (by intro W hW; go_simp; with_reducible rfl) ?_; simp only [Act.put, List.setIfInBounds_toArray, List.set_cons_zero, List.set_cons_succ])
  refine RK.done ?_
  have hsd := HSDD.out
  have hs0 := HS0.out
  obtain ⟨hbo1, hfi1, hgS1⟩ := Sim.ext (A := A) HBD.out HFD.out HGS.out hx1
  have hk1 := hx1.kep
  have hs1 := hk1.size
  have hnS1 : ¬ S1 (w.heap.size + 1) := fun q => (hx1.new _ q).elim hgn (fun q => by omega)
  obtain ⟨hlow1, hbA1⟩ := low_ext hx1 HLOW.out (by omega : A ≤ wd.heap.size)
  have hbw1 : Below A w w1 := (HB0.out.trans (hbd.mono (by omega))).trans hbA1
  have hn1 : BoxAt w1 (w.heap.size + 1) (.slice pl d.L.length cl) d := (hk1.block _ (by omega) hgn).trans ((hbd.block _ HN.out.lt).trans HN.out)
  have hfi1 : FilesIn (XS X S1 gb (w.heap.size + 1)) w1.heap.size w1 (.slice pl d.L.length cl) d.L := hfi1.mono hs1
  have HE4 := Lib.hid (show w1.cell? ⟨w.heap.size, 4, none⟩ = some (.int .i64 o.a) from (hk1.cell hws hgw 4).trans ((hbd.cell (p := ⟨w.heap.size, 4, none⟩) (by show w.heap.size < _; omega)).trans E4.out))
  have HBO1 := Lib.hid hbo1
  have HFI1 := Lib.hid hfi1
  have HCO1 := Lib.hid hco1
  have HN1 := Lib.hid hn1
  have HGS1 := Lib.hid hgS1
  have HNS1 := Lib.hid hnS1
  have HLOW1 := Lib.hid hlow1
  have HBW1 := Lib.hid hbw1
  have HS1 := Lib.hid hs1
  have HNE := Lib.hid (show ∀ k, S1 k → S k ∨ w.heap.size ≤ k from fun k hk => (hx1.new k hk).imp id fun q => by omega)
  have KEP1 := Lib.hid (((kep_below (fun k => ¬ S k) HB00.out).trans (kep_below _ hbd)).trans hk1)
  have HVB1 := Lib.hid (BIn.below HVB.out ((hbd.mono (by omega)).trans hbA1))
  have HVK1 := Lib.hid (RowIn.below HVK.out ((hbd.mono (by omega)).trans hbA1))
  clear hbd hbo1 hfi1 hco1 hn1 hgS1 hnS1 hlow1 hbw1 hbA1 hx1 hk1 hgn hgw hws hsd hs0 hs1
  have hgn : gb ≠ w.heap.size + 1 := by omega
  have hn1 := HN1.out
  have z1 : BoxAt w1 (w.heap.size + 1) (.slice pl d.L.length cl) R := by
    rw [← hR1]
    exact hn1
  have k1 : Kep (fun b => b ≠ w.heap.size + 1) w1 w1 := Kep.refl _ _
  obtain ⟨z2, z3, z4⟩ := sim_put (A := A) HCO1.out HBO1.out k1 (by rw [hl]; exact HFI1.out) HGS1.out HNS1.out hgn HLOW1.out hgA (by omega) hfr
  have HFIN := Lib.hid (show StepC X A S gb R w (.returned (.bool true)) (putBoth w1 gb (.slice pl d.L.length cl) R) from ⟨rfl, S1, g, _, z3, HBW1.out.trans z4, kep_end2 KEP1.out k1 (by omega), HNE.out⟩)
  unfold putBoth at HFIN
  have y0 := z1.files
  have y1 := z1.quota
  have y2 := z1.armed
  have y3 := z1.stopped
  have x1 := z2.b1
  have x2 := z2.b2
  have x3 := z2.b3
  have x4 := z2.b4
  have xf := fun k => z2.free k
  have yf := hn1.free 1
  have g4 := HE4.out
  have n1 := hn1.quota
  rw [hq] at y1
  rw [ha] at y2
  rw [hs] at y3
  rw [hq, ha, hs] at HFIN
  clear z1 z2 z3 z4 k1 hn1 hfr hq ha hs hl hR1
  go_wp2_with fail
  go_ret
  exact HFIN.out
end Go.Proofs.Ytljfpolcgegkpaa.DK

/-
  An op done on both disks: Fork. Conditions: names and bytes as short leaves them; what the op holds lies below block A.
-/
namespace Go.Proofs.Ytljfpolcgegkpaa.DK
open Go.RowKit Go.Proofs.Ytljfpolcgegkpaa.MM Go.Maps
variable {X : Nat → Prop}

theorem own_zz (w : World) : BRow (w.alloc (.cells #[.int .u8 1] 5)) (.slice (some ⟨w.heap.size, 0, none⟩) 1 1) [1] := Row.of_own (own_lit w [.int .u8 1] 5 0 (Nat.zero_le _) (by unfold maxLen; simp))
theorem sim_fork {A gb g g2 nb mb2 : Nat} {S S2 : Nat → Prop} {w0 w1 w3 : World} {V2 : List UInt8 → Value} {c2 : Int} {L : Value} {d : DiskD} (hgb : BothAt w0 gb g L d) (hfi : FilesIn (XS X S gb nb) w0.heap.size w0 L d.L) (hgS : ¬ S gb) (hgn : gb ≠ nb) (hbx : BoxAt w0 nb L d) (hnS : ¬ S nb) (hSl : ∀ k, S k → k < w0.heap.size)
    (hlow : ∀ k, S k → A ≤ k) (hgA : A ≤ gb) (hf : Fits d) (hco2 : CObj S2 w1 g2 mb2 V2 c2 d) (hS2 : ∀ k, S2 k → w0.heap.size ≤ k) (hb : Below w0.heap.size w0 w1) (hk : Kep (fun k => ¬ S k) w1 w3) :
    BoxAt (w3.setCell ⟨gb, 0, none⟩ (.pointer (some ⟨g2, 0, none⟩))) nb L d ∧ BothAt w3 gb g L d ∧ BothAt (w3.setCell ⟨gb, 0, none⟩ (.pointer (some ⟨g2, 0, none⟩))) gb g2 L d ∧ Sim X A S2 (putBoth (w3.setCell ⟨gb, 0, none⟩ (.pointer (some ⟨g2, 0, none⟩))) gb L d) gb g2 L d ∧ Below A w0 (putBoth (w3.setCell ⟨gb, 0, none⟩ (.pointer (some ⟨g2, 0, none⟩))) gb L d) := by
  have k1 : Kep (fun k => ¬ S k) w0 w3 := (kep_below _ hb).trans hk
  have k2 : Kep (fun k => k ≠ gb) w3 (w3.setCell ⟨gb, 0, none⟩ (.pointer (some ⟨g2, 0, none⟩))) := kep_set (S := fun k => k ≠ gb) (fun h => h rfl) _
  have hb3 : BothAt w3 gb g L d := hgb.kep k1 hgS
  have hb4 : BothAt (w3.setCell ⟨gb, 0, none⟩ (.pointer (some ⟨g2, 0, none⟩))) gb g2 L d := heap_setCell_same w3 gb 0 _ _ (.pointer (some ⟨g2, 0, none⟩)) hb3
  obtain ⟨W4, hW4⟩ : ∃ W, w3.setCell ⟨gb, 0, none⟩ (.pointer (some ⟨g2, 0, none⟩)) = W := ⟨_, rfl⟩
  have hx3 : BoxAt w3 nb L d := (k1.block nb hbx.lt hnS).trans hbx
  rw [hW4] at k2 hb4 ⊢
  have k3 := both_kep W4 gb L d
  have hlt := hgb.lt
  have hx4 : BoxAt W4 nb L d := (k2.block nb hx3.lt (fun e => hgn e.symm)).trans hx3
  have hbA : A ≤ w0.heap.size := Nat.le_trans hgA (Nat.le_of_lt hlt)
  have s1 := k1.size
  have s2 := k2.size
  have s3 := k3.size
  have n2 : ∀ k, S2 k → k ≠ gb := fun k hk => by have := hS2 k hk; omega
  refine ⟨hx4, hb3, hb4, ⟨⟨mb2, V2, c2, ((hco2.keepS hk (fun k h2 h1 => by have := hS2 k h2; have := hSl k h1; omega)).keepS k2 n2).keepS k3 n2⟩, both_put hb4 L d, ?_, fun h => n2 gb h rfl, fun k hk => Nat.le_trans hbA (hS2 k hk), hgA, hf⟩, ?_⟩
  · have f1 := hfi.kep k1 (Nat.le_refl _) (fun b _ hn e => hn (.inl e))
    have f2 := f1.kep k2 s1 (fun b _ hn e => hn (.inr (.inl e)))
    have f3 := f2.kep k3 (Nat.le_trans s1 s2) (fun b _ hn e => hn (.inr (.inl e)))
    exact (f3.weak fun b hb hx => by
      rcases hx with hx | hx | hx | hx
      · have := hS2 b hx; omega
      · exact .inr (.inl hx)
      · exact .inr (.inl hx)
      · exact .inr (.inr (.inr hx))).mono (by omega)
  · exact (k1.below hbA (fun k hk h => by have := hlow k h; omega)).trans ((k2.below (by omega) (fun k hk e => by omega)).trans (k3.below (by omega) (fun k hk e => by omega)))
set_option maxRecDepth 100000 in
set_option maxHeartbeats 2000000 in
theorem step_fork (A gb g : Nat) (S : Nat → Prop) (L : Value) (d : DiskD) (v : Value) (o : OpD) (w : World) (h : Sim X A S w gb g L d) (hv : OpIn A w v o) (hA : A ≤ w.heap.size) (hnl : o.name.length ≤ 70) (htl : o.to_.length ≤ 70) (hbl : o.b.length ≤ 100) (hkl : o.keep.length ≤ 10) (hXl : ∀ k, X k → k < w.heap.size) (hm : o.do_ % 12 = 11) :
    Calls Try.prog 12 #[.pointer (some ⟨gb, 0, none⟩), v] w (StepC X A S gb d w) := by
  obtain ⟨mb, V, c, hco⟩ := h.co
  obtain ⟨vb, vk, rfl, hvb, hvk⟩ := hv.val
  obtain ⟨pb, cb, rfl, _, _⟩ := hvb.shape
  obtain ⟨pk, ck, hvk', hvk1, hvk2, hvk3, hvk4⟩ := id hvk
  rw [List.length_map] at hvk'
  subst hvk'
  obtain ⟨pl, cl, rfl, hlc, hcm⟩ := h.fi.shape
  obtain ⟨W0, hW0⟩ : ∃ W, (w.alloc (.cells (opCells o (.slice pb o.b.length cb) (.slice pk o.keep.length ck)) 39)).alloc (.cells #[.slice pl d.L.length cl, .int .i64 d.quota, .int .i64 d.armed, .bool d.stopped] 29) = W := ⟨_, rfl⟩
  have hb0 : Below w.heap.size w W0 := by rw [← hW0]; exact ((Below.refl _ _).alloc (Nat.le_refl _) _).alloc (by simp) _
  have hs0 : W0.heap.size = w.heap.size + 2 := by rw [← hW0]; simp
  have ho0 : W0.heap[w.heap.size]? = some (.cells (opCells o (.slice pb o.b.length cb) (.slice pk o.keep.length ck)) 39 (0, 0)) := by
    rw [← hW0]
    have h1 := heap_alloc_new w (.cells (opCells o (.slice pb o.b.length cb) (.slice pk o.keep.length ck)) 39)
    exact (((Below.refl _ _).alloc (Nat.le_refl _) _).block w.heap.size (by simp)).trans h1
  have hn0 : BoxAt W0 (w.heap.size + 1) (.slice pl d.L.length cl) d := by rw [← hW0]; exact two_new' w _ d
  have hgbw := h.bo.lt
  have hgS := h.gbS
  have hlow := h.low
  have hgA := h.gbA
  have hF := h.fits
  have harm := hco.arm1
  have hc0 := hco.below hb0
  have hbo0 : BothAt W0 gb g (.slice pl d.L.length cl) d := (hb0.block gb hgbw).trans h.bo
  have hfi0 : FilesIn (XS X S gb (w.heap.size + 1)) W0.heap.size W0 (.slice pl d.L.length cl) d.L := ((h.fi.below hb0).weak fun b hb hx => by
    rcases hx with hx | hx | hx | hx
    · exact .inl hx
    · exact .inr (.inl hx)
    · exact absurd hx (by omega)
    · exact .inr (.inr (.inr hx))).mono hb0.size
  have hA0 : A ≤ W0.heap.size := by omega
  have hvb0 := hvb.below (hb0.mono hA)
  have hvk0 := RowIn.below hvk (hb0.mono hA)
  have od := hv.d
  have oa0 := hv.a0
  have oa1 := hv.a1
  have on0 := hv.n0
  have on1 := hv.n1
  have ok := hv.k
  obtain ⟨SN, hSN⟩ : ∃ s : ByteArray, (⟨o.name.toArray⟩ : ByteArray) = s := ⟨_, rfl⟩
  obtain ⟨ST, hST⟩ : ∃ s : ByteArray, (⟨o.to_.toArray⟩ : ByteArray) = s := ⟨_, rfl⟩
  have e0 : W0.cell? ⟨w.heap.size, 0, none⟩ = some (.int .u8 (o.do_ : Int)) := by rw [cell_of_row _ _ 0 _ _ _ ho0]; rfl
  have e1 : W0.cell? ⟨w.heap.size, 1, none⟩ = some (.string SN) := by rw [cell_of_row _ _ 1 _ _ _ ho0, ← hSN]; rfl
  have e2 : W0.cell? ⟨w.heap.size, 2, none⟩ = some (.string ST) := by rw [cell_of_row _ _ 2 _ _ _ ho0, ← hST]; rfl
  have e3 : W0.cell? ⟨w.heap.size, 3, none⟩ = some (.slice pb o.b.length cb) := by rw [cell_of_row _ _ 3 _ _ _ ho0]; rfl
  have e4 : W0.cell? ⟨w.heap.size, 4, none⟩ = some (.int .i64 o.a) := by rw [cell_of_row _ _ 4 _ _ _ ho0]; rfl
  have e5 : W0.cell? ⟨w.heap.size, 5, none⟩ = some (.int .i64 o.n) := by rw [cell_of_row _ _ 5 _ _ _ ho0]; rfl
  have e6 : W0.cell? ⟨w.heap.size, 6, none⟩ = some (.slice pk o.keep.length ck) := by rw [cell_of_row _ _ 6 _ _ _ ho0]; rfl
  have E1 := Lib.hid e1
  have E2 := Lib.hid e2
  have E3 := Lib.hid e3
  have E4 := Lib.hid e4
  have E5 := Lib.hid e5
  have E6 := Lib.hid e6
  have HCO := Lib.hid hc0
  have HBO := Lib.hid hbo0
  have HFI := Lib.hid hfi0
  have HN := Lib.hid hn0
  have HVB := Lib.hid hvb0
  have HVK := Lib.hid hvk0
  have HSN := Lib.hid hSN
  have HST := Lib.hid hST
  have HB0 := Lib.hid (show Below A w W0 from hb0.mono hA)
  have HB00 := Lib.hid hb0
  have HF := Lib.hid hF
  have HGS := Lib.hid hgS
  have HLOW := Lib.hid hlow
  have hul := h.fits.used
  have HSL := Lib.hid hco.lt
  have HXL := Lib.hid hXl
  clear hXl
  have HOK := Lib.hid ok
  have i0 : w.heap[gb]? = some (.cells #[.pointer (some ⟨g, 0, none⟩), .slice pl d.L.length cl, .int .i64 d.quota, .int .i64 d.armed, .bool d.stopped] 35 (0, 0)) := h.bo
  have j0 := fun X => ((Below.refl w.heap.size w).alloc (Nat.le_refl _) X).cell (p := ⟨gb, 1, none⟩) hgbw |>.trans h.bo.b1
  have j1 := fun X => ((Below.refl w.heap.size w).alloc (Nat.le_refl _) X).cell (p := ⟨gb, 2, none⟩) hgbw |>.trans h.bo.b2
  have j2 := fun X => ((Below.refl w.heap.size w).alloc (Nat.le_refl _) X).cell (p := ⟨gb, 3, none⟩) hgbw |>.trans h.bo.b3
  have j3 := fun X => ((Below.refl w.heap.size w).alloc (Nat.le_refl _) X).cell (p := ⟨gb, 4, none⟩) hgbw |>.trans h.bo.b4
  have m1 : ((o.do_ : Int)).tmod 12 = 11 := by rw [Int.tmod_eq_emod_of_nonneg (by omega)]; omega
  have m2 : ((o.do_ : Int)) % 12 = 11 := by omega
  have b00 := hbo0.b0
  have HS0 := Lib.hid hs0
  have HW0 := Lib.hid hW0
  unfold opCells at hW0 ⊢
  rw [hSN, hST] at hW0 ⊢
  clear h hv hvb hvk hvk1 hvk2 hvk3 hvk4 hco hb0 hc0 hbo0 hfi0 hvb0 hvk0 hSN hST hF hgS hlow ok hs0 ho0 hn0 i0 e1 e2 e3 e4 e5 e6
  go_enter Try.func12, Try.ntmps12
  go_wp2_with fail
  refine (cfork_any S g mb V c d W0 HCO.out HF.out).mono ?_
  rintro e w1 ⟨S2, g2, mb2, V2, rfl, hco2, hS2, hb1⟩
  have hsl := HSL.out
  have hs0 := HS0.out
  have hnS : ¬ S (w.heap.size + 1) := fun q => by have := hsl _ q; omega
  have hgn : gb ≠ w.heap.size + 1 := by omega
  have b01 := (hb1.cell (p := ⟨gb, 0, none⟩) HBO.out.lt).trans b00
  have HC1 := Lib.hid (HCO.out.below hb1)
  have HC2 := Lib.hid hco2
  have HS2 := Lib.hid hS2
  have HB1 := Lib.hid hb1
  have hbo1 : BothAt w1 gb g (.slice pl d.L.length cl) d := (hb1.block gb HBO.out.lt).trans HBO.out
  have HBO1 := Lib.hid hbo1
  have HNS := Lib.hid hnS
  clear hco2 hS2 hb1 b00 hbo1 hsl hs0 hnS
  go_wp2_with fail
  refine (crestart_any S g mb V c d (.slice none 0 0) [] w1 HC1.out HF.out (IRow.nil_ _) (by simp) (by simp)).mono ?_
  rintro e w2 ⟨rfl, ⟨V3, hco3⟩, hk2⟩
  have b02 := (HBO1.out.kep hk2 HGS.out).b0
  have HC3 := Lib.hid hco3
  have HK2 := Lib.hid hk2
  have HBO2 := Lib.hid (HBO1.out.kep hk2 HGS.out)
  clear hco3 hk2 b01
  go_wp2_with fail
  have hba : Below w2.heap.size w2 (w2.alloc (.cells #[.int .u8 1] 5)) := (Below.refl _ _).alloc (Nat.le_refl _) _
  have hfz := restart_fits [] HF.out
  have hcall := cappend_any S g mb V3 0 (restartD d []) [122, 122] (.slice (some ⟨w2.heap.size, 0, none⟩) 1 1) [1] _ (HC3.out.below hba) hfz hfz.used (by simp) (own_zz w2) (by simp)
  refine hcall.mono ?_
  clear hcall
  rintro e w3 ⟨rfl, S4, V4, c4, hco4, hx4⟩
  have hk3 : Kep (fun k => ¬ S k) w2 w3 := (kep_below _ hba).trans hx4.kep
  obtain ⟨z1, z0, z2, z3, z4⟩ := sim_fork (A := A) HBO.out HFI.out HGS.out hgn HN.out HNS.out (fun k hk => by have := HSL.out k hk; have := HS0.out; omega) HLOW.out hgA HF.out HC2.out HS2.out HB1.out (HK2.out.trans hk3)
  have HFIN := Lib.hid (show StepC X A S gb d w (.returned (.bool true)) (putBoth (w3.setCell ⟨gb, 0, none⟩ (.pointer (some ⟨g2, 0, none⟩))) gb (.slice pl d.L.length cl) d) from ⟨rfl, S2, g2, _, z3, HB0.out.trans z4, kep_fork (((kep_below _ HB00.out).trans (kep_below _ HB1.out)).trans (HK2.out.trans hk3)), fun k hk => .inr (by have := HS2.out k hk; have := HS0.out; omega)⟩)
  unfold putBoth at HFIN
  have y0 := z1.files
  have y1 := z1.quota
  have y2 := z1.armed
  have y3 := z1.stopped
  have x1 := z2.b1
  have x2 := z2.b2
  have x3 := z2.b3
  have x4 := z2.b4
  have xf := fun k => z2.free k
  have x0 := z0.b0
  have xg := z0.free 0
  clear z1 z2 z3 z4 z0 hk3 hco4 hx4 hfz hba b02
  go_wp2_with fail
  go_ret
  exact HFIN.out
end Go.Proofs.Ytljfpolcgegkpaa.DK

/-
  An op done on both disks: each of the twelve kinds.
-/
namespace Go.Proofs.Ytljfpolcgegkpaa.DK
open Go.RowKit Go.Proofs.Ytljfpolcgegkpaa.MM Go.Maps
variable {X : Nat → Prop}

theorem step_any (A gb g : Nat) (S : Nat → Prop) (L : Value) (d : DiskD) (v : Value) (o : OpD) (w : World) (h : Sim X A S w gb g L d) (hv : OpIn A w v o) (hA : A ≤ w.heap.size) (hnl : o.name.length ≤ 70) (htl : o.to_.length ≤ 70) (hbl : o.b.length ≤ 100) (hkl : o.keep.length ≤ 10) (hXl : ∀ k, X k → k < w.heap.size) :
    Calls Try.prog 12 #[.pointer (some ⟨gb, 0, none⟩), v] w (StepC X A S gb (stepD d o) w) := by
  unfold stepD stepR
  by_cases h4 : o.do_ % 12 = 4
  · rw [if_pos h4]; exact step_sync A gb g S L d v o w h hv hA hnl htl hbl hkl hXl h4
  rw [if_neg h4]
  by_cases h5 : o.do_ % 12 = 5
  · rw [if_pos h5]; exact step_rename A gb g S L d v o w h hv hA hnl htl hbl hkl hXl h5
  rw [if_neg h5]
  by_cases h6 : o.do_ % 12 = 6
  · rw [if_pos h6]; exact step_remove A gb g S L d v o w h hv hA hnl htl hbl hkl hXl h6
  rw [if_neg h6]
  by_cases h7 : o.do_ % 12 = 7
  · rw [if_pos h7]; exact step_read A gb g S L d v o w h hv hA hnl htl hbl hkl hXl h7
  rw [if_neg h7]
  by_cases h8 : o.do_ % 12 = 8
  · rw [if_pos h8]; exact step_arm A gb g S L d v o w h hv hA hnl htl hbl hkl hXl h8
  rw [if_neg h8]
  by_cases h9 : o.do_ % 12 = 9
  · rw [if_pos h9]; exact step_restart A gb g S L d v o w h hv hA hnl htl hbl hkl hXl h9
  rw [if_neg h9]
  by_cases h10 : o.do_ % 12 = 10
  · rw [if_pos h10]
    by_cases ha : o.a < 0
    · rw [if_pos ha]; exact step_quota_neg A gb g S L d v o w h hv hA hnl htl hbl hkl hXl h10 ha
    · rw [if_neg ha]; exact step_quota A gb g S L d v o w h hv hA hnl htl hbl hkl hXl h10 (by omega)
  rw [if_neg h10]
  by_cases h11 : o.do_ % 12 = 11
  · rw [if_pos h11]; exact step_fork A gb g S L d v o w h hv hA hnl htl hbl hkl hXl h11
  rw [if_neg h11]
  exact step_append A gb g S L d v o w h hv hA hnl htl hbl hkl hXl (by omega)
/-- Each op leaves a disk that holds what holds of each. -/
theorem stepD_fits {d : DiskD} (o : OpD) (h : Fits d) (ha : o.a ≤ 9223372036854775807) : Fits (stepD d o) := by
  unfold stepD stepR
  split
  · exact sync_fits _ h
  split
  · exact rename_fits _ _ h
  split
  · exact remove_fits _ h
  split
  · exact h
  split
  · exact arm_fits _ h
  split
  · exact restart_fits _ h
  split
  · split
    · exact h
    · exact quota_fits _ h (by omega) ha
  split
  · exact h
  · exact append_fits _ _ h
end Go.Proofs.Ytljfpolcgegkpaa.DK

/-
  Each file of a disk that is reached has a name that may be; what both disks tell of a file is then alike.
-/
namespace Go.Proofs.Ytljfpolcgegkpaa.DK
open Go.RowKit Go.Proofs.Ytljfpolcgegkpaa.MM Go.Maps
variable {X : Nat → Prop}

/-- Each file's name may be. -/
def Nam (d : DiskD) : Prop := ∀ f ∈ d.L, namedL f.name = true
theorem nam_of {d e : DiskD} (h : Nam d) (hL : e.L = d.L) : Nam e := fun f hf => h f (hL ▸ hf)
theorem append_nam {d : DiskD} (n b : List UInt8) (h : Nam d) : Nam (appendD d n b).1 := by
  have hc := (call_L d).1
  unfold appendD
  split
  · exact h
  rename_i hn
  split
  · exact h
  split
  · exact h
  split
  · exact h
  split
  · exact h
  split
  · exact nam_of h hc
  intro f hf
  have hf : f ∈ withL (callD d).1.L _ := hf
  rw [hc] at hf
  rcases mem_withL hf with rfl | hf
  · simpa using hn
  · exact h f hf
theorem on_nam {d : DiskD} (ok : Bool) (n : List UInt8) (G : FileD → List FileD) (h : Nam d) (hG : ∀ f, ok = true → findL d.L n = some f → ∀ x ∈ G f, namedL x.name = true) : Nam (onD d ok n G).1 := by
  have hc := (call_L d).1
  unfold onD
  split
  · exact h
  rename_i hok
  split
  · exact h
  split
  · exact h
  rename_i f hf
  split
  · exact nam_of h hc
  · exact hG f (by simpa using hok) hf
theorem restart_nam {d : DiskD} (ks : List Int) (h : Nam d) : Nam (restartD d ks) := by
  have hm : ∀ (L : List FileD) (ks : List Int), ∀ g ∈ restartL L ks, ∃ f ∈ L, g.name = f.name := by
    intro L
    induction L with
    | nil => intro ks g hg; simp [restartL] at hg
    | cons x L ih =>
      intro ks g hg
      unfold restartL at hg
      rcases List.mem_cons.1 hg with rfl | hg
      · exact ⟨x, List.mem_cons_self .., rfl⟩
      · obtain ⟨f, hf, h1⟩ := ih ks.tail g hg
        exact ⟨f, List.mem_cons_of_mem _ hf, h1⟩
  intro g hg
  obtain ⟨f, hf, h1⟩ := hm d.L ks g hg
  rw [h1]
  exact h f hf
theorem step_nam {d : DiskD} (o : OpD) (h : Nam d) : Nam (stepD d o) := by
  unfold stepD stepR
  split
  · exact on_nam _ _ _ h fun f hok hf x hx => by
      rcases mem_withL hx with rfl | hx
      · exact h f (find_mem hf).1
      · exact h x hx
  split
  · exact on_nam _ _ _ h fun f hok hf x hx => by
      rcases mem_withL hx with rfl | hx
      · simp only [Bool.and_eq_true] at hok
        exact hok.2
      · exact h x (mem_without hx)
  split
  · exact on_nam _ _ _ h fun f hok hf x hx => h x (mem_without hx)
  split
  · exact h
  split
  · exact nam_of h rfl
  split
  · exact restart_nam _ h
  split
  · split
    · exact h
    · exact nam_of h rfl
  split
  · exact h
  · exact append_nam _ _ h
theorem find_named {d : DiskD} (h : Nam d) {n : List UInt8} {f : FileD} (hf : findL d.L n = some f) : namedL n = true := by
  have := h f (find_mem hf).1
  rwa [(find_mem hf).2] at this
/-- What both tell of a size. -/
theorem size_eq {d : DiskD} (h : Nam d) (n : List UInt8) : (if findE (namedL n) d.stopped (findL d.L n).isSome = 0 then ((curB d n).length : Int) else 0) = ((sizeD d n).1 : Int) ∧ (findE (namedL n) d.stopped (findL d.L n).isSome == 0) = (sizeD d n).2 := by
  unfold sizeD findE curB
  cases hf : findL d.L n with
  | none => cases namedL n <;> cases d.stopped <;> simp
  | some f =>
    rw [find_named h hf]
    cases d.stopped <;> simp
theorem dur_eq (d : DiskD) (n : List UInt8) : curS d n = durableD d n := rfl
/-- A file of a disk that runs is read as it is. -/
theorem read_file {d : DiskD} (h : Nam d) (hg : Good d) {f : FileD} (hf : f ∈ d.L) (hs : d.stopped = false) (m : Int) (hm : (f.b.length : Int) ≤ m) : creadD d f.name 0 m = (f.b, 0) := by
  have h1 := rise_find hg.rise hf
  unfold creadD findE partD curB
  rw [h f hf, h1, hs]
  have h2 : ¬ ((0 : Int) < 0 ∨ (f.b.length : Int) < 0 ∨ m < 0) := by omega
  simp only [Option.isSome_some, if_true, Option.map_some, Option.getD_some, Bool.false_eq_true, if_false, if_neg h2]
  simp only [Int.toNat_zero, List.drop_zero]
  rw [List.take_of_length_le (by omega)]
theorem dur_file {d : DiskD} (hg : Good d) {f : FileD} (hf : f ∈ d.L) : curS d f.name = f.sure := by
  unfold curS
  rw [rise_find hg.rise hf]
  rfl
end Go.Proofs.Ytljfpolcgegkpaa.DK
