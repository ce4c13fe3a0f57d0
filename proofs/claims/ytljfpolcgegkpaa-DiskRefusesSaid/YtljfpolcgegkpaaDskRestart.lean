/-
  The code's Restart. Condition: names and bytes are no longer than memory bears.
-/
import Derived.Test.YtljfpolcgegkpaaDskRead2
import Derived.Test.YtljfpolcgegkpaaDskNames
import Derived.Test.YtljfpolcgegkpaaDskMath3
import Derived.Test.YtljfpolcgegkpaaMemInts
import Derived.Test.YtljfpolcgegkpaaRegK
set_option linter.unusedVariables false
namespace Go.Proofs.Ytljfpolcgegkpaa.DK
open Go.RowKit Go.Proofs.Ytljfpolcgegkpaa.MM Go.Maps

theorem rowin_kep {T : Nat → Prop} {B : Nat} {w w' : World} {v : Value} {xs : List Value} (h : RowIn B w v xs) (hk : Kep T w w') (hT : ∀ k, (∃ i x, w.cell? ⟨k, i, none⟩ = some x) → T k) : RowIn B w' v xs := by
  obtain ⟨p, cap, hv, h1, h2, h3, h⟩ := h
  refine ⟨p, cap, hv, h1, h2, h3, ?_⟩
  rcases h with h | ⟨b, off, hp, hlt, hc⟩
  · exact .inl h
  · refine .inr ⟨b, off, hp, hlt, fun i u hi => ?_⟩
    have hcu := hc i u hi
    have hb : b < w.heap.size := by
      rcases Nat.lt_or_ge b w.heap.size with h | h
      · exact h
      · have : w.cell? ⟨b, off + i, none⟩ = none := by simp [World.cell?, Array.getElem?_eq_none h]
        rw [this] at hcu
        cases hcu
    rw [hk.cell hb (hT b ⟨off + i, u, hcu⟩)]
    exact hcu
theorem CObj.noCell {S : Nat → Prop} {w : World} {g mb : Nat} {V : List UInt8 → Value} {c : Int} {d : DiskD} (h : CObj S w g mb V c d) : ∀ k, (∃ i x, w.cell? ⟨k, i, none⟩ = some x) → k ≠ mb := by
  rintro k ⟨i, x, hx⟩ rfl
  obtain ⟨es, j, hm⟩ := h.tab.map.obj
  simp [World.cell?, hm] at hx
/-- A row of the call's own, cut. -/
theorem own_take {w : World} {p : Option Addr} {n cap : Nat} {l : List UInt8} (h : OwnB 0 w (.slice p n cap) l) (m : Nat) (hm : m ≤ l.length) : OwnB 0 w (.slice p m cap) (l.take m) := by
  have hlen : (l.take m).length = m := by rw [List.length_take]; omega
  unfold OwnB
  rw [hlen, ← byteCells_take]
  refine ⟨by rw [List.length_take, byteCells_len]; omega, ?_⟩
  rcases h.2 with ⟨hv, h0⟩ | ⟨g, cap', cur, hv, hg, hh, hnc, hcm, hs, ht⟩
  · simp only [Value.slice.injEq] at hv
    obtain ⟨rfl, _, rfl⟩ := hv
    obtain rfl : m = 0 := by omega
    exact .inl ⟨rfl, rfl⟩
  · simp only [Value.slice.injEq] at hv
    obtain ⟨rfl, _, rfl⟩ := hv
    refine .inr ⟨g, cap, cur, rfl, hg, hh, by omega, hcm, hs, ?_⟩
    rw [← ht, List.take_take, Nat.mul_one, Nat.mul_one, Nat.min_eq_left hm]
theorem block_any (p : Option Addr) (m n c c' : Nat) : (Value.slice p m c).ownBlock = (Value.slice p n c').ownBlock := by cases p <;> rfl
theorem restartF_kept (f : FileD) (k : Option Int) : restartF f k = ⟨f.name, f.b.take (keptN f.b.length f.sure (k.getD 0)), keptN f.b.length f.sure (k.getD 0)⟩ := by
  unfold restartF keptN
  cases k with
  | none => simp
  | some k => rfl
def RestartC (S : Nat → Prop) (g mb : Nat) (d : DiskD) (ks : List Int) (w : World) (e : Ending) (w' : World) : Prop := e = .returned (.tuple #[]) ∧ (∃ V', CObj S w' g mb V' 0 (restartD d ks)) ∧ Kep (fun k => ¬ S k) w w'
set_option maxRecDepth 100000 in
set_option maxHeartbeats 4000000 in
theorem crestart_any (S : Nat → Prop) (g mb : Nat) (V : List UInt8 → Value) (c : Int) (d : DiskD) (vk : Value) (ks : List Int) (w : World) (h : CObj S w g mb V c d) (hF : Fits d) (hk : IRow w vk ks) (hks : ∀ k ∈ ks, -9223372036854775808 ≤ k ∧ k ≤ 9223372036854775807) (hkl : ks.length ≤ 1000000000000) :
    Calls Try.prog 14 #[.pointer (some ⟨g, 0, none⟩), vk] w (RestartC S g mb d ks w) := by
  obtain ⟨pk, capk, rfl, _, _⟩ := hk.shape
  have HM := Lib.hid (made_yes g mb w h.g0)
  have HN := Lib.hid (names_any S g mb V c d w h hF)
  have HH := Lib.hid h
  have HFT := Lib.hid hF
  have HK := Lib.hid hk
  have HKS := Lib.hid hks
  have hmg : g ≠ mb := h.gm
  have hdl := hF.len
  clear h hF hk hks
  go_enter Try.func14, Try.ntmps14
  go_wp2_with fail
  refine HM.out.mono ?_
  rintro e w' ⟨rfl, rfl⟩
  go_wp2_with fail
  refine HN.out.mono ?_
  rintro e W1 ⟨vn, rfl, hsin, hb1⟩
  obtain ⟨pn, capn, rfl, _, _⟩ := hsin.shape
  rw [List.length_map]
  have HSN := Lib.hid hsin
  have HB1 := Lib.hid hb1
  have HO1 := Lib.hid (show CObj S W1 g mb V c { d with L := stepL d.L ks 0 } from HH.out.below hb1)
  have HK1 := Lib.hid (IRow.below HK.out hb1)
  have HKW := Lib.hid (kep_below (fun k => ¬ S k) hb1)
  clear hsin hb1 HM HN
  go_wp2_with fail
  go_loopw [13] (fun iv wr => ∃ (i : Nat) (V' : List UInt8 → Value), i ≤ d.L.length ∧ iv = .int .i64 (i : Int) ∧ Hid (CObj S wr g mb V' c { d with L := stepL d.L ks i }) ∧ Hid (SIn W1.heap.size wr (.slice pn d.L.length capn) (d.L.map (·.name))) ∧ Hid (IRow wr (.slice pk ks.length capk) ks) ∧ Hid (Kep (fun k => ¬ S k) w wr) ∧ W1.heap.size ≤ wr.heap.size) (fun iv _ => d.L.length - (intOf iv).toNat)
  case atStart =>
    refine ⟨0, V, by omega, rfl, HO1, ?_, HK1, HKW, Nat.le_refl _⟩
    have := HSN.out
    rw [List.length_map] at this
    exact Lib.hid this
  case round =>
    obtain ⟨i, V', hi, rfl, HO, HS, HKR, HKP, hsz⟩ := hrel
    clear HO1 HSN HK1 HKW
    by_cases hlt : i < d.L.length
    · have q1 : decide ((i : Int) < (d.L.length : Int)) = true := by rw [decide_eq_true_eq]; omega
      have q2 : decide (i < d.L.length) = true := by rw [decide_eq_true_eq]; omega
      obtain ⟨f, hf⟩ : ∃ f, d.L[i]? = some f := ⟨d.L[i], List.getElem?_eq_getElem hlt⟩
      obtain ⟨blk, off, hpn, hblk, hcell⟩ := HS.out.at_ (k := i) (m := f.name) (by rw [List.getElem?_map, hf]; rfl)
      obtain ⟨kk, hkk⟩ : ∃ kk, (ks[i]?).getD 0 = kk := ⟨_, rfl⟩
      have hkr : -9223372036854775808 ≤ kk ∧ kk ≤ 9223372036854775807 := by
        rw [← hkk]
        cases hq : ks[i]? with
        | none => simp
        | some k => exact HKS.out k (List.mem_of_getElem? hq)
      have hfL := List.mem_of_getElem? hf
      have hgood := HFT.out.good
      have hfb := HFT.out.bytes f hfL
      have hfs := hgood.sure f hfL
      have hfn := HFT.out.name f hfL
      have hfind := step_find (ks := ks) hgood.rise hf
      have hput := step_put (ks := ks) hgood.rise hf
      have hcurV : curV { d with L := stepL d.L ks i } V' f.name = V' f.name := by unfold curV; rw [hfind]; rfl
      have hcurS : curS { d with L := stepL d.L ks i } f.name = f.sure := by unfold curS; rw [hfind]; rfl
      have hcurB : curB { d with L := stepL d.L ks i } f.name = f.b := by unfold curB; rw [hfind]; rfl
      have hvn := own_slice (cur_own HO.out.tab f.name)
      rw [hcurV, hcurB] at hvn
      obtain ⟨p, cap, hv, hvc, hvm⟩ := hvn
      have hlook := fun W (hW : CObj S W g mb V' c { d with L := stepL d.L ks i }) => hW.look f.name (by omega)
      rw [hcurV, hcurS, hv] at hlook
      obtain ⟨M, hM⟩ : ∃ M, keptN f.b.length f.sure kk = M := ⟨_, rfl⟩
      obtain ⟨m1, m2⟩ := kept_le f.b.length f.sure kk hfs
      have hres := fun W => restarted_any p f.b.length cap f.sure kk W hfs hvc hvm (by omega) hkr.1 hkr.2
      rw [hM] at hres m1 m2
      have hrF := restartF_kept f ks[i]?
      rw [hkk, hM] at hrF
      rw [hrF] at hput
      subst hpn
      have g0 := HO.out.g0
      have hglt := HO.out.glt
      have HLK := Lib.hid hlook
      have HRES := Lib.hid hres
      have HPUT := Lib.hid hput
      have HFI := Lib.hid hfind
      have HV := Lib.hid hv
      have HKK := Lib.hid hkk
      have HLT := Lib.hid hlt
      have HGR := Lib.hid (step_rise ks i hgood.rise)
      have HSL := Lib.hid (step_len d.L ks i)
      obtain ⟨x, hx⟩ : ∃ x : ByteArray, (⟨f.name.toArray⟩ : ByteArray) = x := ⟨_, rfl⟩
      rw [hx] at hcell
      have HX := Lib.hid hx
      clear hlook hres hput hfind hv hM hrF hcurV hcurS hcurB hgood hkk hx hlt hf hkr
      by_cases hkl2 : i < ks.length
      case' pos =>
        have q3 : decide ((i : Int) < (ks.length : Int)) = true := by rw [decide_eq_true_eq]; omega
        have q4 : decide (i < ks.length) = true := by rw [decide_eq_true_eq]; omega
        obtain ⟨kb, ko, hpk, hkb, kcell⟩ := HKR.out.at_ hkl2
        rw [List.getD_eq_getElem?_getD, HKK.out] at kcell
        subst hpk
        go_wp2_with fail
      case' neg =>
        have q3 : decide ((i : Int) < (ks.length : Int)) = false := by rw [decide_eq_false_iff_not]; omega
        have q4 : decide (i < ks.length) = false := by rw [decide_eq_false_iff_not]; omega
        obtain rfl : kk = 0 := by
          have := HKK.out
          rw [List.getElem?_eq_none (by omega)] at this
          exact this.symm
        go_wp2_with fail
      all_goals (
        refine RK.begin_ (T := fun k => k ≠ mb) [(0, true), (1, true), (2, true), (3, true), (4, true), (5, true), (6, true), (7, true), (8, true), (9, true), (11, true), (10, false), (12, false), (13, false)] (by kernel_rfl) (by kernel_rfl) rfl (by kernel_rfl) (fun _ _ d _ _ h => by cases d <;> exact h) ?_
        simp only [RK.ordered, List.map_cons, List.map_nil, List.getElem?_toArray, List.getElem?_cons_succ, List.getElem?_cons_zero]
        obtain ⟨wd, hwd⟩ : ∃ wd, wr.drew = wd := ⟨_, rfl⟩
        have hbd : Below wr.heap.size wr wd := by rw [← hwd]; exact (Below.refl _ _).drew
        have HBD := Lib.hid hbd
        have HOD := Lib.hid (HO.out.below hbd)
        rw [hwd]
        have hsd : wd.heap.size = wr.heap.size := by rw [← hwd]; rfl
        clear hwd hbd g0
        have g0 := fun W (hW : Kep (fun k => k ≠ mb) wd W) => (show W.cell? ⟨g, 0, none⟩ = some (.map (some mb)) by rw [hW.cell HOD.out.glt hmg]; exact HOD.out.g0)
        repeat (refine RK.take (by rfl) (by intro W hW; go_simp; with_reducible rfl) ?_; simp only [Act.put, List.setIfInBounds_toArray, List.set_cons_zero, List.set_cons_succ])
        have hlk := HLK.out wd HOD.out
        rw [HX.out] at hlk
        refine RK.alone (by rfl) (fun K hK => ?_)
        go_simp
        refine hK.out _ _ (Kep.refl _ _) ?_
        clear hK K hlk
        refine RK.alone (by rfl) (fun K hK => ?_)
        go_simp
        refine (HRES.out _).mono ?_
        rintro e W3 ⟨rfl, hb3⟩
        go_simp
        refine hK.out _ _ (kep_below _ hb3) ?_
        clear hK K g0
        have HO3 := Lib.hid (HOD.out.below hb3)
        refine RK.alone (by rfl) (fun K hK => ?_)
        refine wp_mapV_store _ _ _ rfl mb _ _ rfl HO3.out.tab.map (by rw [HSL.out]; unfold maxLen; omega) f.name (.agg #[.slice p M cap, .int .i64 (M : Int)]) (by rw [HX.out]; rfl) rfl (by unfold maxLen; omega) ?_
        intro W4 hm4 hk4
        refine hK.out _ _ hk4 ?_
        clear hK K
        refine RK.done ?_
        have ht3 := HO3.out.tab
        have hown := cur_own ht3 f.name
        have hcv : curV { d with L := stepL d.L ks i } V' f.name = .slice p f.b.length cap := by unfold curV; rw [HFI.out]; exact HV.out
        have hcb : curB { d with L := stepL d.L ks i } f.name = f.b := by unfold curB; rw [HFI.out]; rfl
        rw [hcv, hcb] at hown
        have hrw : ∀ k, (Value.slice p f.b.length cap).ownBlock = some k → k ≠ mb := fun k hk => (HO3.out.row hown hk).2
        have ht4 := Tab.put (T := S) HGR.out ht3 f.name ⟨f.name, f.b.take M, M⟩ (.slice p M cap) rfl (hk4.mono fun k h => h.1) hm4 (OwnB.kepB (own_take hown M m2) hk4 fun k hk => hrw k ((block_any _ _ _ _ _).trans hk)) (fun k hk => .inl ⟨f, HFI.out, by rw [HV.out]; exact (block_any _ _ _ _ _).trans hk⟩) (fun _ h => h) HO3.out.lt (fun y hy k hk => (HO3.out.row (ht3.own y hy) hk).2)
        rw [HPUT.out] at ht4
        have hobj := HO3.out.retab (T := S) hk4 hmg ht4 (fun _ h => h) (fun k hS => Nat.lt_of_lt_of_le (HO3.out.lt k hS) hk4.size)
        have hs3 := hb3.size
        have hs4 := hk4.size
        have HON := Lib.hid hobj
        have HSN := Lib.hid (rowin_kep ((HS.out.below (HBD.out.mono hsz)).below (hb3.mono (by omega))) hk4 HO3.out.noCell)
        have HKN := Lib.hid ((rowin_kep (IRow.below (IRow.below HKR.out HBD.out) hb3) hk4 HO3.out.noCell).mono hk4.size)
        have HKPN := Lib.hid (HKP.out.trans ((kep_below _ HBD.out).trans ((kep_below _ hb3).trans (kep_not HO.out.tab.mS hk4))))
        have hlt := HLT.out
        clear hobj ht4 hrw hcv hcb hown ht3 hk4 hm4 hb3
        go_wp2_with fail
        go_roundw
        case rel => exact ⟨i + 1, _, by omega, by go_num, HON, HSN, HKN, HKPN, by omega⟩
        case measure => simp [intOf]; omega)
    · obtain rfl : i = d.L.length := by omega
      have q1 : decide ((d.L.length : Int) < (d.L.length : Int)) = false := by rw [decide_eq_false_iff_not]; omega
      have q2 : decide (d.L.length < d.L.length) = false := by rw [decide_eq_false_iff_not]; omega
      have hobj := HO.out
      have he : ({ d with L := stepL d.L ks d.L.length } : DiskD) = { d with L := restartL d.L ks } := by rw [step_end]
      rw [he] at hobj
      have c2 := hobj.free
      have hk0 : ∀ u0 u1, Kep (fun k => k ≠ g) wr ((wr.setCell ⟨g, 2, none⟩ u0).setCell ⟨g, 3, none⟩ u1) := fun u0 u1 => (kep_set (fun h => h rfl) u0).trans (kep_set (fun h => h rfl) u1)
      have hset := heap_setCell_same _ g 3 _ _ (.bool false) (heap_setCell_same wr g 2 _ _ (.int .i64 0) hobj.obj)
      have HF := Lib.hid (show RestartC S g mb d ks w (.returned (.tuple #[])) ((wr.setCell ⟨g, 2, none⟩ (.int .i64 0)).setCell ⟨g, 3, none⟩ (.bool false)) from ⟨rfl, ⟨V', hobj.set (hk0 _ _) hset rfl rfl (by omega) (by omega)⟩, HKP.out.trans (kep_not HH.out.gS (hk0 _ _))⟩)
      have c3 := hobj.g2
      have c4 := hobj.g3
      clear hobj he hk0 hset
      go_wp2_with fail
      refine bodyPost_end (results_none rfl _ _ _) rfl ?_
      exact HF.out
end Go.Proofs.Ytljfpolcgegkpaa.DK
