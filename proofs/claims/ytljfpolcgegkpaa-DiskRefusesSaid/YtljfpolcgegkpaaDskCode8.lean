/-
  The code's Rename. Condition: names are no longer than memory bears.
-/
import Derived.Test.YtljfpolcgegkpaaDskCode7
import Derived.Test.YtljfpolcgegkpaaRegK
set_option linter.unusedVariables false
namespace Go.Proofs.Ytljfpolcgegkpaa.DK
open Go.RowKit Go.Proofs.Ytljfpolcgegkpaa.MM Go.Maps

theorem sin_one (w : World) (t : List UInt8) : SIn (w.alloc (.cells #[.string ⟨t.toArray⟩] 9)).heap.size (w.alloc (.cells #[.string ⟨t.toArray⟩] 9)) (.slice (some ⟨w.heap.size, 0, none⟩) 1 1) [t] := by
  refine ⟨some ⟨w.heap.size, 0, none⟩, 1, rfl, Nat.le_refl _, by unfold maxLen; omega, (fun h => by cases h), .inr ⟨w.heap.size, 0, rfl, by simp, fun i u hi => ?_⟩⟩
  rw [cell_of_row _ _ _ _ _ _ (heap_alloc_new w _)]
  simpa using hi
theorem ok_two (n t : List UInt8) : (namedL n && ![t].any (fun n => !namedL n)) = (namedL n && namedL t) := by simp
/-- The table, a file put in whose row is none of the others'. -/
theorem Tab.move {S : Nat → Prop} {w w' : World} {mb : Nat} {V : List UInt8 → Value} {L : List FileD} (hr : Rise L) (h : Tab S w mb V L) (n : List UInt8) (f' : FileD) (v' : Value) (hn : f'.name = n) (hk : Kep (fun k => k ≠ mb) w w')
    (hm : MapV w' mb (if (tabF L V n).isSome then L.length else L.length + 1) (fun k => if k = n then some (fileCV v' f'.sure) else tabF L V k)) (ho : OwnB 0 w' v' f'.b)
    (hrow : ∀ k, v'.ownBlock = some k → S k ∧ ∀ x ∈ L, (V x.name).ownBlock ≠ some k) (hrows : ∀ f ∈ L, ∀ k, (V f.name).ownBlock = some k → k ≠ mb) :
    Tab S w' mb (fun k => if k = n then v' else V k) (withL L f') := by
  have hmem : ∀ f ∈ withL L f', f = f' ∨ (f ∈ L ∧ f.name ≠ n) := fun f hf => by
    rcases mem_insL.1 hf with h | h
    · exact .inl h
    · obtain ⟨h1, h2⟩ := List.mem_filter.1 h
      exact .inr ⟨h1, by rw [← hn]; simpa using h2⟩
  refine ⟨?_, fun f hf => ?_, fun f hf x hx hne k hk' => ?_, fun f hf k hk' => ?_, h.mS⟩
  · have hlen : (withL L f').length = if (tabF L V n).isSome then L.length else L.length + 1 := by
      rw [len_with f' hr, hn]
      unfold tabF
      rw [Option.isSome_map]
    rw [hlen]
    obtain ⟨D, h1, h2, h3⟩ := hm
    refine ⟨D, h1, h2, fun k => ?_⟩
    have := h3 k
    have e : tabF (withL L f') (fun k => if k = n then v' else V k) k = (if k = n then some (fileCV v' f'.sure) else tabF L V k) := by
      unfold tabF
      rw [find_with, hn]
      by_cases e : k = n <;> simp [e]
    rw [e]
    exact this
  · rcases hmem f hf with rfl | ⟨hfL, hfn⟩
    · rw [hn, if_pos rfl]
      exact ho
    · rw [if_neg hfn]
      exact OwnB.kepB (h.own f hfL) hk (hrows f hfL)
  · rcases hmem f hf with rfl | ⟨hfL, hfn⟩
    · rcases hmem x hx with rfl | ⟨hxL, hxn⟩
      · exact absurd rfl hne
      · rw [hn, if_pos rfl] at hk'
        rw [if_neg hxn]
        exact (hrow k hk').2 x hxL
    · rw [if_neg hfn] at hk'
      rcases hmem x hx with rfl | ⟨hxL, hxn⟩
      · rw [hn, if_pos rfl]
        exact fun hx' => (hrow k hx').2 f hfL hk'
      · rw [if_neg hxn]
        exact h.apart f hfL x hxL hne k hk'
  · rcases hmem f hf with rfl | ⟨hfL, hfn⟩
    · rw [hn, if_pos rfl] at hk'
      exact (hrow k hk').1
    · rw [if_neg hfn] at hk'
      exact h.inS f hfL k hk'
set_option maxRecDepth 100000 in
set_option maxHeartbeats 2000000 in
theorem crename_any (S : Nat → Prop) (g mb : Nat) (V : List UInt8 → Value) (c : Int) (d : DiskD) (n t : List UInt8) (w : World) (h : CObj S w g mb V c d) (hF : Fits d) (hn : n.length ≤ 1000000000000) (ht : t.length ≤ 1000000000000) :
    Calls Try.prog 23 #[.pointer (some ⟨g, 0, none⟩), .string ⟨n.toArray⟩, .string ⟨t.toArray⟩] w (DoneC g mb (renameD d n t) S w) := by
  have hba : ∀ (W : World) o, Below W.heap.size W (W.alloc o) := fun W o => (Below.refl _ _).alloc (Nat.le_refl _) _
  have hfac := fac_any S _ g mb V c d _ [t] n (w.alloc (.cells #[.string ⟨t.toArray⟩] 9)) (h.below (hba w _)) (Nat.le_refl _) hn (sin_one w t) (by simp) (by simpa using ht)
  rw [ok_two] at hfac
  obtain ⟨e1, e2, e3⟩ := on_fac d (namedL n && namedL t) n fun f => withL (withoutL d.L n) ⟨t, f.b, f.sure⟩
  have e1 : (renameD d n t).2 = facE (namedL n && namedL t) d n := e1
  unfold DoneC
  rw [e1]
  obtain ⟨ok, hok⟩ : ∃ ok, (namedL n && namedL t) = ok := ⟨_, rfl⟩
  rw [hok] at hfac e2 e3 ⊢
  have e2 : facE ok d n ≠ 0 → (renameD d n t).1 = facD ok d n := fun hne => by unfold renameD; rw [hok]; exact e2 hne
  have e3 : facE ok d n = 0 → ∃ f, findL d.L n = some f ∧ facD ok d n = (callD d).1 ∧ (renameD d n t).1 = { (callD d).1 with L := withL (withoutL d.L n) ⟨t, f.b, f.sure⟩ } := fun he => by unfold renameD; rw [hok]; exact e3 he
  obtain ⟨E, hE⟩ : ∃ E, facE ok d n = E := ⟨_, rfl⟩
  have hfs : ∀ f, findL d.L n = some f → (curB d n).length = f.b.length ∧ curS d n = f.sure := fun f hf => by unfold curB curS; rw [hf]; exact ⟨rfl, rfl⟩
  have hvs := own_slice (cur_own h.tab n)
  have HFAC := Lib.hid hfac
  have HE := Lib.hid hE
  have HE2 := Lib.hid e2
  have HE3 := Lib.hid e3
  have HFS := Lib.hid hfs
  have HVS := Lib.hid hvs
  have HFT := Lib.hid hF
  have hmg : g ≠ mb := h.gm
  have HH := Lib.hid h
  have HN := Lib.hid hn
  have HT := Lib.hid ht
  have HBA := Lib.hid hba
  rw [hE]
  clear hfac e2 e3 hE hF h hn ht hba hok hfs hvs
  go_enter Try.func23, Try.ntmps23
  go_wp2_with fail
  refine HFAC.out.mono ?_
  rintro e W1 ⟨c1, fv, rfl, hobj, hk, ⟨p0, m0, cap0, s, rfl⟩, hfv⟩
  rw [HE.out] at hfv ⊢
  have HO1 := Lib.hid hobj
  have HK1 := Lib.hid ((kep_below (fun k => k ≠ g) (HBA.out w (.cells #[.string ⟨t.toArray⟩] 9))).trans hk)
  have HFV := Lib.hid hfv
  clear hobj hk HFAC hfv
  by_cases hE0 : E = 0
  · subst hE0
    obtain ⟨f, hf, hd1, hd2⟩ := HE3.out HE.out
    have hfv := HFV.out rfl
    obtain ⟨p, cap, hcv, _, _⟩ := HVS.out
    obtain ⟨q1, q2⟩ := HFS.out f hf
    rw [q1] at hcv
    rw [hcv, q2] at hfv
    simp only [Value.agg.injEq, Array.mk.injEq, List.cons.injEq, Value.int.injEq, Value.slice.injEq, and_true, true_and] at hfv
    obtain ⟨⟨rfl, rfl, rfl⟩, rfl⟩ := hfv
    have HD2 := Lib.hid hd2
    have HD1 := Lib.hid hd1
    have HF := Lib.hid hf
    have HCV := Lib.hid hcv
    have HO2 := Lib.hid (fun o => HO1.out.below (HBA.out W1 o))
    have c0 := HO1.out.g0
    have hgl := HO1.out.glt
    have hmlt := HO1.out.mlt
    clear hd1 hd2 hf hcv q1 q2
    go_wp2_with (at_delete; go_loud (refine wpList_mapV_drop rfl _ _ rfl mb _ _ rfl (HO2.out _).tab.map n rfl (by have := HN.out; unfold maxLen; omega) ?_))
    intro W4 hm4 hk4
    unfold lessOne noneAt at hm4
    have hdl : (facD ok d n).L = d.L := by rw [HD1.out]; exact (call_L d).1
    have hft := HFT.out
    obtain ⟨W2, hW2⟩ : ∃ W, W1.alloc (.cells #[.slice p0 f.b.length cap0, .int .i64 (f.sure : Int)] 82) = W := ⟨_, rfl⟩
    have ho2 := HO2.out (.cells #[.slice p0 f.b.length cap0, .int .i64 (f.sure : Int)] 82)
    have hb2 := HBA.out W1 (.cells #[.slice p0 f.b.length cap0, .int .i64 (f.sure : Int)] 82)
    have hv2 := fv_new W1 (.slice p0 f.b.length cap0) (f.sure : Int)
    rw [hW2] at hk4 ho2 hb2 hv2
    have ht2 : Tab S W2 mb V d.L := by have := ho2.tab; rw [hdl] at this; exact this
    rw [hdl] at hm4
    have ht4 := Tab.take hft.good.rise ht2 n hk4 hm4 (fun x hx k hk => (ho2.row (ht2.own x hx) hk).2)
    have ho4 := ho2.retab (T := S) hk4 hmg ht4 (fun _ h => h) (fun k hS => Nat.lt_of_lt_of_le (ho2.lt k hS) hk4.size)
    have hv4 := hv2.kep hk4 (show W1.heap.size ≠ mb by omega)
    have hvn : V n = .slice p0 f.b.length cap0 := by
      have := HCV.out
      unfold curV at this
      rw [HF.out] at this
      exact this
    have hown : OwnB 0 W2 (V n) f.b := by have := ht2.own f (find_mem HF.out).1; rw [(find_mem HF.out).2] at this; exact this
    have hown4 : OwnB 0 W4 (V n) f.b := OwnB.kepB hown hk4 fun k hk => (ho2.row hown hk).2
    have hrow4 : ∀ k, (V n).ownBlock = some k → S k ∧ ∀ x ∈ withoutL d.L n, (V x.name).ownBlock ≠ some k := fun k hk => by
      have hfm := find_mem HF.out
      refine ⟨ht2.inS f hfm.1 k (by rw [hfm.2]; exact hk), fun x hx e => ?_⟩
      obtain ⟨x1, x2⟩ := List.mem_filter.1 hx
      have hne : x.name ≠ n := by simpa using x2
      have := ht2.apart x x1 f hfm.1 (by rw [hfm.2]; exact hne) k e
      rw [hfm.2] at this
      exact this hk
    have HO4 := Lib.hid ho4
    have HV4 := Lib.hid hv4
    have HOWN4 := Lib.hid hown4
    have HROW4 := Lib.hid hrow4
    have HVN := Lib.hid hvn
    have HK4 := Lib.hid (((kep_not HH.out.gS HK1.out).trans (kep_below _ hb2)).trans (kep_not HH.out.tab.mS hk4))
    have HRI := Lib.hid (rise_without (n := n) hft.good.rise)
    have hlw : (withoutL d.L n).length ≤ 1024 := by
      rw [len_without hft.good.rise]
      have := hft.len
      split <;> omega
    have hs4 := hk4.size
    have hs2 := hb2.size
    have hne4 : W1.heap.size ≠ mb := by omega
    clear ho4 hv4 hown4 hrow4 hown hvn ht4 ht2 hm4 hk4 ho2 hb2 hv2 hW2 hft hdl c0
    go_wp2_with fail
    refine RK.begin_ (T := fun k => k ≠ mb) [(0, true), (1, true), (2, true), (3, true), (4, true), (5, true), (6, false)] (by kernel_rfl) (by kernel_rfl) rfl (by kernel_rfl) (fun _ _ d _ _ h => by cases d <;> exact h) ?_
    simp only [RK.ordered, List.map_cons, List.map_nil, List.getElem?_toArray, List.getElem?_cons_succ, List.getElem?_cons_zero]
    obtain ⟨wd, hwd⟩ : ∃ wd, W4.drew = wd := ⟨_, rfl⟩
    have hbd : Below W4.heap.size W4 wd := by rw [← hwd]; exact (Below.refl _ _).drew
    have HOD := Lib.hid (HO4.out.below hbd)
    have HFD := Lib.hid (HV4.out.below hbd HV4.out.lt)
    have HOWND := Lib.hid (HOWN4.out.keep hbd)
    have HBD := Lib.hid hbd
    rw [hwd]
    clear hwd hbd
    have g0 := fun W (hW : Kep (fun k => k ≠ mb) wd W) => (show W.cell? ⟨g, 0, none⟩ = some (.map (some mb)) by rw [hW.cell HOD.out.glt hmg]; exact HOD.out.g0)
    have f0 := fun W (hW : Kep (fun k => k ≠ mb) wd W) => (HFD.out.kep hW hne4).f0
    have f1 := fun W (hW : Kep (fun k => k ≠ mb) wd W) => (HFD.out.kep hW hne4).f1
    repeat (refine RK.take (by rfl) (by intro W hW; go_simp; with_reducible rfl) ?_; simp only [Act.put, List.setIfInBounds_toArray, List.set_cons_zero, List.set_cons_succ])
    clear g0 f0 f1
    refine RK.alone (by rfl) (fun K hK => ?_)
    refine wp_mapV_store _ _ _ rfl mb _ _ rfl HOD.out.tab.map (by show (withoutL d.L n).length < maxLen; unfold maxLen; omega) t _ rfl rfl (by have := HT.out; unfold maxLen; omega) ?_
    intro W6 hm6 hk6
    refine hK.out _ _ hk6 ?_
    clear hK K
    refine RK.done ?_
    have htd : Tab S wd mb V (withoutL d.L n) := HOD.out.tab
    have hrw : ∀ k, (V n).ownBlock = some k → k ≠ mb := fun k hk => (HOD.out.row HOWND.out hk).2
    have ht6 := Tab.move HRI.out htd t ⟨t, f.b, f.sure⟩ (V n) rfl hk6 (by rw [HVN.out]; exact hm6) (OwnB.kepB HOWND.out hk6 hrw) HROW4.out (fun x hx k hk => (HOD.out.row (htd.own x hx) hk).2)
    have hres := HOD.out.retab (T := S) hk6 hmg ht6 (fun _ h => h) (fun k hS => Nat.lt_of_lt_of_le (HOD.out.lt k hS) hk6.size)
    have HDONE := Lib.hid (show ∃ S' V' c', CObj S' W6 g mb V' c' (renameD d n t).1 ∧ Ext S S' w W6 by
      refine ⟨S, (fun k => if k = t then V n else V k), c1, ?_, Ext.refl_ ((HK4.out.trans (kep_below _ HBD.out)).trans (kep_not HH.out.tab.mS hk6))⟩
      rw [HD2.out]
      rw [HD1.out] at hres
      exact hres)
    clear hres ht6 hrw htd hm6 hk6
    go_wp2_with fail
    go_ret
    exact ⟨rfl, HDONE.out⟩
  · have t1 : (E == 0) = false := by rw [beq_eq_false_iff_ne]; exact hE0
    have hd : (renameD d n t).1 = facD ok d n := HE2.out (by rw [HE.out]; exact hE0)
    have HF := Lib.hid (show ∀ o, ∃ S' V' c', CObj S' (W1.alloc o) g mb V' c' (renameD d n t).1 ∧ Ext S S' w (W1.alloc o) from fun o => ⟨S, V, c1, by rw [hd]; exact HO1.out.below (HBA.out W1 o), Ext.refl_ ((kep_not HH.out.gS HK1.out).trans (kep_below _ (HBA.out W1 o)))⟩)
    clear hd hE0
    go_wp2_with fail
    go_ret
    exact ⟨rfl, HF.out _⟩
end Go.Proofs.Ytljfpolcgegkpaa.DK
