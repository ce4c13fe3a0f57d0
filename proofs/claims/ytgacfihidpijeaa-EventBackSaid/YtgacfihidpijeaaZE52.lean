/-
  The event that stands first in any bytes: the code's Get. Condition: fewer than 10^12 bytes.
-/
import Derived.Test.YtgacfihidpijeaaZE50
import Derived.Test.YtgacfihidpijeaaZE46
import Derived.Test.YtgacfihidpijeaaZE12
set_option linter.unusedVariables false
namespace Go.Proofs.Ytgacfihidpijeaa.EV
open Go Go.RowKit Go.Proofs.Ytgacfihidpijeaa.MM Go.Proofs.Ytgacfihidpijeaa.EM Go.Proofs.Ytgacfihidpijeaa.VM
open Go.Proofs.Ytgacfihidpijeaa.VP

/-- What Get tells: an event, a rest, an error's number. -/
def getR (l : List UInt8) : Ev × List UInt8 × Int := match getE l with
  | some (e, r) => (e, r, 0)
  | none => ((0, []), [], 100)
theorem getR_some {l r : List UInt8} {e : Ev} (h : getE l = some (e, r)) : getR l = (e, r, 0) := by unfold getR; rw [h]
theorem getR_none {l : List UInt8} (h : getE l = none) : getR l = ((0, []), [], 100) := by unfold getR; rw [h]
theorem get_odd {l : List UInt8} (h : (evSt l false).2.2 = true) : getE l = none := by
  unfold getE
  cases hr : rdE l with
  | none => rfl
  | some p =>
    obtain ⟨e, r⟩ := p
    rw [ev_some false hr] at h
    cases h
theorem get_read {l : List UInt8} (h : (evSt l false).2.2 = false) : rdE l = some ((evSt l false).1, (evSt l false).2.1) := by
  cases hr : rdE l with
  | none => rw [ev_none false hr] at h; cases h
  | some p =>
    obtain ⟨e, r⟩ := p
    rw [ev_some false hr]
theorem get_bad {l : List UInt8} (h : (evSt l false).2.2 = false) (hc : checkE (evSt l false).1 ≠ 0) : getE l = none := by
  unfold getE
  rw [get_read h]
  dsimp only
  rw [if_neg hc]
theorem get_good {l : List UInt8} (h : (evSt l false).2.2 = false) (hc : checkE (evSt l false).1 = 0) : getE l = some ((evSt l false).1, (evSt l false).2.1) := by
  unfold getE
  rw [get_read h]
  dsimp only
  rw [if_pos hc]
/-- What Get leaves. -/
def CGot (s : Ev × List UInt8 × Int) (w : World) (e : Ending) (w' : World) : Prop :=
  ∃ u v, e = .returned (.tuple #[.agg #[.int .i64 s.1.1, u], v, .int .i64 s.2.2]) ∧ ROn fldC (fun b => w.heap.size ≤ b) w' u s.1.2 ∧ OwnB w.heap.size w' v s.2.1 ∧ Below w.heap.size w w'

set_option maxRecDepth 100000 in
set_option maxHeartbeats 2000000 in
theorem cget_any (v : Value) (l : List UInt8) (w : World) (hv : BRow w v l) (hl : l.length ≤ 1000000000000) : Calls Try.prog 28 #[v] w (CGot (getR l) w) := by
  have hmx : Try.prog.follows .mixedOrders = true := by kernel_rfl
  obtain ⟨pv, cv, rfl, _⟩ := hv.shape
  obtain ⟨z, fs, l1, o1, hst⟩ : ∃ z fs l1 o1, evSt l false = ((z, fs), l1, o1) := ⟨_, _, _, _, rfl⟩
  have hodd := get_odd (l := l)
  have hbad := get_bad (l := l)
  have hgood := get_good (l := l)
  rw [hst] at hodd hbad hgood
  have HODD := Lib.hid hodd
  have HBAD := Lib.hid hbad
  have HGOOD := Lib.hid hgood
  -- the result's block, the reader's
  obtain ⟨wa, hwa⟩ : ∃ wa, (w.alloc (.cells #[.int .i64 0, .slice none 0 0] 24)).alloc (.cells #[.slice pv l.length cv, .bool false] 80) = wa := ⟨_, rfl⟩
  have hba : Below w.heap.size w wa := by rw [← hwa]; exact ((Below.refl _ _).alloc (Nat.le_refl _) _).alloc (by simp) _
  have hsa : wa.heap.size = w.heap.size + 2 := by rw [← hwa]; simp
  have t0 : Two wa w.heap.size 24 (.int .i64 0) (.slice none 0 0) := by
    rw [← hwa]; exact (two_new w 24 _ _).keep (kep_alloc (fun _ => True) _ _) trivial
  have hrd : Rd w.heap.size wa (w.heap.size + 1) l false := by
    refine ⟨.slice pv l.length cv, ?_, BIn.below hv hba⟩
    rw [← hwa]
    have := heap_alloc_new (w.alloc (.cells #[.int .i64 0, .slice none 0 0] 24)) (.cells #[.slice pv l.length cv, .bool false] 80)
    simp only [World.size_alloc] at this
    exact this
  have HE := Lib.hid (event_any w.heap.size (w.heap.size + 1) l false wa hrd (by omega))
  rw [hst] at HE
  have HFAIL : Hid (∀ W a b, Two W w.heap.size 24 a b → Below w.heap.size w W → getE l = none →
      CGot (getR l) w (.returned (.tuple #[.agg #[.int .i64 0, .slice none 0 0], .slice none 0 0, .int .i64 100])) ((W.setCell ⟨w.heap.size, 0, none⟩ (.int .i64 0)).setCell ⟨w.heap.size, 1, none⟩ (.slice none 0 0))) := Lib.hid (fun W a b ht hb hn => by
    rw [getR_none hn]
    exact ⟨_, _, rfl, ROn.nil_ _ _, World.ownsRow_nil _ _ _ _, hb.trans ((kep_set01 (.int .i64 0) (.slice none 0 0)).below (B := w.heap.size) (Nat.le_of_lt ht.lt) (fun k hk => by omega))⟩)
  have T0 := Lib.hid t0
  have HBA := Lib.hid hba
  have HWA := Lib.hid hwa
  clear hodd hbad hgood hst hrd t0 hba hv hwa
  go_enter Try.func28, Try.ntmps28
  go_wp2_with fail
  rw [HWA.out]
  refine HE.out.mono ?_
  rintro e w1 ⟨u, rfl, hu, hr1, hk1⟩
  have hu : ROn fldC (fun b => wa.heap.size ≤ b) w1 u fs := ROn.weak hu fun b _ h => h.1
  have hr1 : Rd w.heap.size w1 (w.heap.size + 1) l1 o1 := hr1
  have hs1 := hk1.size
  have t1 : Two w1 w.heap.size 24 (.int .i64 0) (.slice none 0 0) := T0.out.keep hk1 (by omega)
  have HT2 := Lib.hid (t1.s01 (.int .i64 z) u)
  have hk2 : Kep (fun b => b ≠ w.heap.size) w1 ((w1.setCell ⟨w.heap.size, 0, none⟩ (.int .i64 z)).setCell ⟨w.heap.size, 1, none⟩ u) := kep_set01 _ _
  obtain ⟨a0, a1, a2, a3, a4, a5⟩ := t1.all (.int .i64 z)
  obtain ⟨w2, hw2⟩ : ∃ w2, (w1.setCell ⟨w.heap.size, 0, none⟩ (.int .i64 z)).setCell ⟨w.heap.size, 1, none⟩ u = w2 := ⟨_, rfl⟩
  rw [hw2] at HT2 hk2
  have hs2 := hk2.size
  have HW2 := Lib.hid hw2
  have hb2 : Below w.heap.size w w2 := HBA.out.trans ((hk1.below (B := w.heap.size) (by omega) (fun k hk => by omega)).trans (hk2.below (by omega) (fun k hk => by omega)))
  have hu2 : ROn fldC (fun b => wa.heap.size ≤ b) w2 u fs := (hu.weak (T := fun b => wa.heap.size ≤ b ∧ b ≠ w.heap.size) (fun b _ hb => ⟨hb, by have : wa.heap.size ≤ b := hb; omega⟩)).keep (hk2.mono fun _ h => h.2) (fun _ _ h => h.1)
  have hr2 : Rd w.heap.size w2 (w.heap.size + 1) l1 o1 := hr1.keep hk2 (by omega) (fun k hk => by omega) (by omega)
  have HB2 := Lib.hid hb2
  have HU2 := Lib.hid hu2
  obtain ⟨vl, hc2, hl2⟩ := hr2
  have HVL := Lib.hid hl2
  have g0 := cell_of_row w2 (w.heap.size + 1) 0 _ _ _ hc2
  have g1 := cell_of_row w2 (w.heap.size + 1) 1 _ _ _ hc2
  obtain ⟨pu, cu, hpu, _⟩ := hu2.shape
  subst hpu
  have e0 := HT2.out.c0
  have e1 := HT2.out.c1
  have HC2 := Lib.hid hc2
  rw [← HW2.out] at g0 g1 e0 e1
  clear hu hr1 hk1 t1 hk2 hw2 hb2 hu2 hl2 hc2 HE
  cases o1 with
  | true =>
    have HQ := Lib.hid (HFAIL.out w2 _ _ HT2.out HB2.out (HODD.out rfl))
    have HX := Lib.hid (HT2.out.s01 (.int .i64 0) (.slice none 0 0))
    obtain ⟨_, _, b2, b3, b4, b5⟩ := HT2.out.all (.int .i64 0)
    rw [← HW2.out] at HQ HX b2 b3 b4 b5
    clear HU2 HVL HC2 HFAIL HODD HBAD HGOOD HW2 HT2
    go_wp2_with fail
    refine bodyPost_ret (results_box3 (p := 2) (u := 3) (v := 4) rfl Try.underlying24 rfl infoEv2 _ _ w.heap.size _ _ rfl HX.out) rfl HQ.out
  | false =>
    go_wp2_with fail
    rw [HW2.out]
    rw [HW2.out] at g0 g1 e0 e1
    refine (check_any z _ fs w2 HU2.out.any).mono ?_
    rintro e w3 ⟨rfl, hb3⟩
    have ht3 := HT2.out.keep (kep_below (fun _ => True) hb3) trivial
    have HB3 := Lib.hid (HB2.out.trans (hb3.mono HB2.out.size))
    have HT3 := Lib.hid ht3
    have hs3 := hb3.size
    have hc3 := (hb3.block (w.heap.size + 1) (by omega)).trans HC2.out
    have HV3 := Lib.hid (HVL.out.below (hb3.mono (by omega)))
    have HU3 := Lib.hid (ROn.keep HU2.out (kep_below _ hb3) fun _ _ h => h)
    obtain ⟨c, hc⟩ : ∃ c, checkE (z, fs) = c := ⟨_, rfl⟩
    rw [hc] at HBAD HGOOD ⊢
    by_cases hz : c = 0
    · subst hz
      have hgd := HGOOD.out (by trivial) rfl
      have HGR := Lib.hid (getR_some hgd)
      have k0 := cell_of_row w3 (w.heap.size + 1) 0 _ _ _ hc3
      have hl1 : l1.length ≤ 1000000000000 := by
        have := congrArg List.length (getE_back hgd).1
        rw [List.length_append] at this
        omega
      clear hb3 ht3 hc3 hgd hc HODD HBAD HGOOD HU2 HVL HC2 HT2 HFAIL g0 g1 e0 e1 a0 a1 a2 a3 a4 a5
      go_wp2_with fail
      refine RS.begin_ (T := fun b => b < w3.heap.size) [(0, true), (1, true), (2, true), (3, false)] hmx (by kernel_rfl) (fun _ _ d _ _ h => by cases d <;> exact h) ?_
      simp only [RS.ordered, List.map_cons, List.map_nil, List.getElem?_toArray, List.getElem?_cons_succ, List.getElem?_cons_zero]
      obtain ⟨wd, hwd⟩ : ∃ wd, w3.drew = wd := ⟨_, rfl⟩
      have hbd : Below w3.heap.size w3 wd := by rw [← hwd]; exact (Below.refl _ _).drew
      have htd := HT3.out.below hbd HT3.out.lt
      have G := Lib.hid (fun W (hW : Kep (fun b => b < w3.heap.size) wd W) => (show W.cell? ⟨w.heap.size, 0, none⟩ = some (.int .i64 z) ∧ W.cell? ⟨w.heap.size, 1, none⟩ = some (.slice pu fs.length cu) ∧ W.cell? ⟨w.heap.size + 1, 0, none⟩ = some vl from
        ⟨(htd.keep hW (by omega)).c0, (htd.keep hW (by omega)).c1, (hW.cell (by have := hbd.size; omega) (by omega) 0).trans ((hbd.cell (p := ⟨w.heap.size + 1, 0, none⟩) (show w.heap.size + 1 < w3.heap.size by omega)).trans k0)⟩))
      have HCL := Lib.hid (bclone_any vl l1 wd (BRow.below (BIn.row HV3.out (by omega)) hbd) hl1)
      have HTD := Lib.hid htd
      have HBD := Lib.hid hbd
      have HUD := Lib.hid (ROn.keep HU3.out (kep_below _ hbd) fun _ _ h => h)
      rw [hwd]
      have hsd := hbd.size
      clear hwd hbd htd HT3 HU3 HV3 k0
      repeat (refine RS.take (by rfl) (by intro W hW; obtain ⟨f1, f2, f3⟩ := G.out W hW; go_simp; with_reducible rfl) ?_; simp only [Act.put, List.setIfInBounds_toArray, List.set_cons_zero, List.set_cons_succ])
      refine RS.alone (by rfl) (fun K hK => ?_)
      go_simp
      refine HCL.out.mono ?_
      rintro e w4 ⟨v4, rfl, ho4, hb4⟩
      go_simp
      refine hK.out _ _ (kep_below _ hb4) ?_
      clear hK K
      have ht4 := HTD.out.below hb4 HTD.out.lt
      obtain ⟨_, _, b2, b3, b4, b5⟩ := ht4.all (.int .i64 z)
      have HX := Lib.hid (ht4.s01 (.int .i64 z) (.slice pu fs.length cu))
      have hs4 := hb4.size
      have hk5 : Kep (fun b => b ≠ w.heap.size) w4 ((w4.setCell ⟨w.heap.size, 0, none⟩ (.int .i64 z)).setCell ⟨w.heap.size, 1, none⟩ (.slice pu fs.length cu)) := kep_set01 _ _
      have HQ : Hid (CGot (getR l) w (.returned (.tuple #[.agg #[.int .i64 z, .slice pu fs.length cu], v4, .int .i64 0])) ((w4.setCell ⟨w.heap.size, 0, none⟩ (.int .i64 z)).setCell ⟨w.heap.size, 1, none⟩ (.slice pu fs.length cu))) := Lib.hid (by
        rw [HGR.out]
        refine ⟨_, _, rfl, ?_, ?_, ?_⟩
        · have h1 := ROn.keep HUD.out (kep_below _ hb4) fun _ _ h => h
          exact (h1.weak (T := fun b => w.heap.size ≤ b ∧ b ≠ w.heap.size) (fun b _ hb => by have : wa.heap.size ≤ b := hb; exact ⟨by omega, by omega⟩)).keep (hk5.mono fun _ h => h.2) (fun _ _ h => h.1)
        · exact OwnB.weaken (GB.OwnB.kepOwn ho4 hk5 (fun k hk => by have := (World.ownsRow.lt ho4 k hk).1; omega)) (by omega)
        · exact (HB3.out.trans ((HBD.out.trans (hb4.mono hsd)).mono HB3.out.size)).trans (hk5.below (by omega) (fun k hk => by omega)))
      clear ht4 ho4 hb4 hk5 HTD HBD HUD G HCL HGR HB3
      refine RS.done ?_
      simp only [List.length_cons, List.length_nil, List.drop_succ_cons, List.drop_zero, Nat.zero_add, Nat.reduceAdd]
      go_wp2_with fail
      refine bodyPost_ret (results_box3 (p := 2) (u := 3) (v := 4) rfl Try.underlying24 rfl infoEv2 _ _ w.heap.size _ _ rfl HX.out) rfl HQ.out
    · have q1 : (c != 0) = true := by rw [bne_iff_ne]; exact hz
      have HQ := Lib.hid (HFAIL.out w3 _ _ HT3.out HB3.out (HBAD.out (by trivial) hz))
      have HX := Lib.hid (HT3.out.s01 (.int .i64 0) (.slice none 0 0))
      obtain ⟨_, _, b2, b3, b4, b5⟩ := HT3.out.all (.int .i64 0)
      clear HU2 HVL HC2 HFAIL HODD HBAD HGOOD HW2 HT2 hb3 ht3 hc3 HU3 HV3
      go_wp2_with fail
      refine bodyPost_ret (results_box3 (p := 2) (u := 3) (v := 4) rfl Try.underlying24 rfl infoEv2 _ _ w.heap.size _ _ rfl HX.out) rfl HQ.out
end Go.Proofs.Ytgacfihidpijeaa.EV
