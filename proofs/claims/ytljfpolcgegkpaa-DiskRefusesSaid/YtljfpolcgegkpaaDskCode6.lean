/-
  The code's Sync. Condition: names are no longer than memory bears.
-/
import Derived.Test.YtljfpolcgegkpaaDskCode5
import Derived.Test.YtljfpolcgegkpaaRegK
set_option linter.unusedVariables false
namespace Go.Proofs.Ytljfpolcgegkpaa.DK
open Go.RowKit Go.Proofs.Ytljfpolcgegkpaa.MM Go.Maps

/-! ### what a writing call leaves -/
/-- The disk's own blocks may become more; the others that there were are as they were. -/
structure Ext (S S' : Nat → Prop) (w w' : World) : Prop where
  more : ∀ k, S k → S' k
  new : ∀ k, S' k → S k ∨ w.heap.size ≤ k
  kep : Kep (fun k => ¬ S k) w w'
theorem Ext.refl_ {S : Nat → Prop} {w w' : World} (h : Kep (fun k => ¬ S k) w w') : Ext S S w w' := ⟨fun _ h => h, fun _ h => .inl h, h⟩
theorem Ext.pre {S S' : Nat → Prop} {w w1 w' : World} (h : Kep (fun k => ¬ S k) w w1) (k : Ext S S' w1 w') : Ext S S' w w' :=
  ⟨k.more, fun i hi => (k.new i hi).imp id fun h' => Nat.le_trans h.size h', h.trans k.kep⟩
def DoneC (g mb : Nat) (r : DiskD × Int) (S : Nat → Prop) (w : World) (e : Ending) (w' : World) : Prop := e = .returned (.int .i64 r.2) ∧ ∃ S' V' c', CObj S' w' g mb V' c' r.1 ∧ Ext S S' w w'
theorem on_fac (d : DiskD) (ok : Bool) (n : List UInt8) (G : FileD → List FileD) : (onD d ok n G).2 = facE ok d n ∧ (facE ok d n ≠ 0 → (onD d ok n G).1 = facD ok d n) ∧
    (facE ok d n = 0 → ∃ f, findL d.L n = some f ∧ facD ok d n = (callD d).1 ∧ (onD d ok n G).1 = { (callD d).1 with L := G f }) := by
  unfold onD facE facD findE
  cases ok <;> cases d.stopped <;> cases findL d.L n <;> cases (callD d).2 <;> simp
theorem CObj.retab {S T U : Nat → Prop} {w w' : World} {g mb : Nat} {V V' : List UInt8 → Value} {c : Int} {d : DiskD} {L' : List FileD} (h : CObj S w g mb V c d) (hk : Kep U w w') (hg : U g) (ht : Tab T w' mb V' L') (hT : ∀ k, S k → T k) (hlt : ∀ k, T k → k < w'.heap.size) :
    CObj T w' g mb V' c { d with L := L' } := ⟨(hk.block g h.glt hg).trans h.obj, h.armed, h.c0, h.c1, ht, hT g h.gS, hlt⟩
theorem ok_one (n : List UInt8) : (namedL n && !([] : List (List UInt8)).any (fun n => !namedL n)) = namedL n := by simp
theorem kep_not {S : Nat → Prop} {w w' : World} {g : Nat} (hg : S g) (h : Kep (fun k => k ≠ g) w w') : Kep (fun k => ¬ S k) w w' := h.mono fun k hk e => hk (by rw [e]; exact hg)

set_option maxRecDepth 100000 in
set_option maxHeartbeats 2000000 in
theorem csync_any (S : Nat → Prop) (g mb : Nat) (V : List UInt8 → Value) (c : Int) (d : DiskD) (n : List UInt8) (w : World) (h : CObj S w g mb V c d) (hF : Fits d) (hn : n.length ≤ 1000000000000) :
    Calls Try.prog 22 #[.pointer (some ⟨g, 0, none⟩), .string ⟨n.toArray⟩] w (DoneC g mb (syncD d n) S w) := by
  have hfac := fac_any S 0 g mb V c d (.slice none 0 0) [] n w h (Nat.zero_le _) hn (SIn.nil_ _ _) (by simp) (by simp)
  rw [ok_one] at hfac
  obtain ⟨e1, e2, e3⟩ := on_fac d (namedL n) n fun f => withL d.L ⟨f.name, f.b, f.b.length⟩
  have e1 : (syncD d n).2 = facE (namedL n) d n := e1
  unfold DoneC
  rw [e1]
  obtain ⟨E, hE⟩ : ∃ E, facE (namedL n) d n = E := ⟨_, rfl⟩
  have hfs : ∀ f, findL d.L n = some f → (curB d n).length = f.b.length := fun f hf => by unfold curB; rw [hf]; rfl
  have hvs := own_slice (cur_own h.tab n)
  have HFAC := Lib.hid hfac
  have HE := Lib.hid hE
  have HE2 := Lib.hid e2
  have HE3 := Lib.hid e3
  have HS := Lib.hid hfs
  have HVS := Lib.hid hvs
  have HFT := Lib.hid hF
  have hmg : g ≠ mb := h.gm
  have HH := Lib.hid h
  have HN := Lib.hid hn
  rw [hE]
  clear hfac e1 e2 e3 hE hfs hvs hF h hn
  go_enter Try.func22, Try.ntmps22
  go_wp2_with fail
  refine HFAC.out.mono ?_
  rintro e W1 ⟨c1, fv, rfl, hobj, hk, ⟨p0, m0, cap0, s, rfl⟩, hfv⟩
  rw [HE.out] at hfv ⊢
  have HO1 := Lib.hid hobj
  have HK1 := Lib.hid hk
  have HFV := Lib.hid hfv
  clear hobj hk hfv HFAC
  have hba : ∀ o, Below W1.heap.size W1 (W1.alloc o) := fun o => (Below.refl _ _).alloc (Nat.le_refl _) _
  by_cases hE0 : E = 0
  · subst hE0
    obtain ⟨f, hf, hd1, hd2⟩ := HE3.out HE.out
    have hd2 : (syncD d n).1 = { (callD d).1 with L := withL d.L ⟨f.name, f.b, f.b.length⟩ } := hd2
    have hfv := HFV.out rfl
    obtain ⟨p, cap, hcv, _, _⟩ := HVS.out
    rw [HS.out f hf] at hcv
    rw [hcv] at hfv
    simp only [Value.agg.injEq, Array.mk.injEq, List.cons.injEq, Value.int.injEq, Value.slice.injEq, and_true, true_and] at hfv
    obtain ⟨⟨rfl, rfl, rfl⟩, rfl⟩ := hfv
    have hnw := HO1.out.mlt
    have HD2 := Lib.hid hd2
    have HD1 := Lib.hid hd1
    have HCV := Lib.hid hcv
    have hk1 := fun o => (kep_below (fun k => k ≠ mb) (hba o))
    obtain ⟨W2, hW2⟩ : ∃ W, W1.alloc (.cells #[.slice p0 f.b.length cap0, .int .i64 (curS d n : Int)] 82) = W := ⟨_, rfl⟩
    have hf2 : FV W2 W1.heap.size (.slice p0 f.b.length cap0) (curS d n : Int) := by rw [← hW2]; exact fv_new W1 _ _
    have hb2 : Below W1.heap.size W1 W2 := by rw [← hW2]; exact hba _
    have HB2 := Lib.hid hb2
    have HF2 := Lib.hid hf2
    have HO2 := Lib.hid (HO1.out.below hb2)
    have HW2 := Lib.hid hW2
    clear hd1 hd2 hcv hba hk1 hW2 hf2 hb2
    go_wp2_with fail
    rw [HW2.out]
    refine RK.begin_ (T := fun k => k ≠ mb) [(0, true), (1, true), (2, true), (3, true), (4, true), (5, true), (6, false), (7, false)] (by kernel_rfl) (by kernel_rfl) rfl (by kernel_rfl) (fun _ _ d _ _ h => by cases d <;> exact h) ?_
    simp only [RK.ordered, List.map_cons, List.map_nil, List.getElem?_toArray, List.getElem?_cons_succ, List.getElem?_cons_zero]
    obtain ⟨wd, hwd⟩ : ∃ wd, W2.drew = wd := ⟨_, rfl⟩
    have hbd : Below W2.heap.size W2 wd := by rw [← hwd]; exact (Below.refl _ _).drew
    have HOD := Lib.hid (HO2.out.below hbd)
    have HFD := Lib.hid (HF2.out.below hbd HF2.out.lt)
    have HBD := Lib.hid hbd
    rw [hwd]
    clear hwd hbd HW2
    have g0 := fun W (hW : Kep (fun k => k ≠ mb) wd W) => (show W.cell? ⟨g, 0, none⟩ = some (.map (some mb)) by rw [hW.cell HOD.out.glt hmg]; exact HOD.out.g0)
    have hne : W1.heap.size ≠ mb := by omega
    have f0 := fun W (hW : Kep (fun k => k ≠ mb) wd W) => (HFD.out.kep hW hne).f0
    have f1 := fun W (hW : Kep (fun k => k ≠ mb) wd W) => (HFD.out.kep hW hne).f1
    repeat (refine RK.take (by rfl) (by intro W hW; go_simp; with_reducible rfl) ?_; simp only [Act.put, List.setIfInBounds_toArray, List.set_cons_zero, List.set_cons_succ])
    refine RK.alone (by rfl) (fun K hK => ?_)
    go_simp
    refine (synced_any _ _ _ _ _).mono ?_
    rintro e W3 ⟨rfl, hb3⟩
    go_simp
    refine hK.out _ _ (kep_below _ hb3) ?_
    clear hK K g0 f0 f1
    have HO3 := Lib.hid (HOD.out.below hb3)
    have HB3 := Lib.hid hb3
    clear hb3
    have hdl : (facD (namedL n) d n).L = d.L := by rw [HD1.out]; exact (call_L d).1
    have hft := HFT.out
    refine RK.alone (by rfl) (fun K hK => ?_)
    refine wp_mapV_store _ _ _ rfl mb _ _ rfl HO3.out.tab.map (by rw [hdl]; have := hft.len; unfold maxLen; omega) n _ rfl rfl (by have := HN.out; unfold maxLen; omega) ?_
    intro W4 hm4 hk4
    refine hK.out _ _ hk4 ?_
    clear hK K
    refine RK.done ?_
    have hfn := (find_mem hf).2
    have hnf : curV d V n = V n := by unfold curV; rw [hf]; rfl
    have ht3 : Tab S W3 mb V d.L := by have := HO3.out.tab; rw [hdl] at this; exact this
    have hvn : V n = .slice p0 f.b.length cap0 := by rw [← hnf]; exact HCV.out
    have hown : OwnB 0 W3 (V n) f.b := by have := ht3.own f (find_mem hf).1; rw [hfn] at this; exact this
    have hrows : ∀ x ∈ d.L, ∀ k, (V x.name).ownBlock = some k → k ≠ mb := fun x hx k hk => (HO3.out.row (ht3.own x hx) hk).2
    have ht4 : Tab S W4 mb (fun k => if k = n then V n else V k) (withL d.L ⟨f.name, f.b, f.b.length⟩) := by
      refine Tab.put (T := S) hft.good.rise ht3 n ⟨f.name, f.b, f.b.length⟩ (V n) hfn (hk4.mono fun k h => h.1) ?_ (OwnB.kepB hown hk4 fun k hk => (HO3.out.row hown hk).2) (fun k hk => .inl ⟨f, hf, hk⟩) (fun _ h => h) HO3.out.lt hrows
      rw [hdl] at hm4
      rw [hvn]
      exact hm4
    have hres := HO3.out.retab (T := S) hk4 hmg ht4 (fun _ h => h) (fun k hS => Nat.lt_of_lt_of_le (HO3.out.lt k hS) hk4.size)
    have hdone : ∃ S' V' c', CObj S' W4 g mb V' c' (syncD d n).1 ∧ Ext S S' w W4 := by
      refine ⟨S, (fun k => if k = n then V n else V k), c1, ?_, Ext.refl_ (((kep_not HH.out.gS HK1.out).trans (kep_below _ HB2.out)).trans (((kep_below _ HBD.out).trans (kep_below _ HB3.out)).trans (kep_not HH.out.tab.mS hk4)))⟩
      rw [HD2.out]
      rw [HD1.out] at hres
      exact hres
    have HDONE := Lib.hid hdone
    clear hdone hres ht4 hrows hown hvn ht3 hnf hfn hm4 hk4 hft hdl hf
    go_wp2_with fail
    go_ret
    exact ⟨rfl, HDONE.out⟩
  · have t1 : (E == 0) = false := by rw [beq_eq_false_iff_ne]; exact hE0
    have hd : (syncD d n).1 = facD (namedL n) d n := HE2.out (by rw [HE.out]; exact hE0)
    have HF := Lib.hid (show ∀ o, ∃ S' V' c', CObj S' (W1.alloc o) g mb V' c' (syncD d n).1 ∧ Ext S S' w (W1.alloc o) from fun o => ⟨S, V, c1, by rw [hd]; exact HO1.out.below (hba o), Ext.refl_ ((kep_not HH.out.gS HK1.out).trans (kep_below _ (hba o)))⟩)
    clear hd hE0 hba
    go_wp2_with fail
    go_ret
    exact ⟨rfl, HF.out _⟩
end Go.Proofs.Ytljfpolcgegkpaa.DK
