/-
  How many of a dictionary's terms a predicate holds of: the code's closures, its search among blocks, then within one. Conditions: entries that may be; 262144 at most.
-/
import Derived.Test.YtklngjnjnkocmaaZA35
import Derived.Test.YtklngjnjnkocmaaZA34
import Derived.Test.YtklngjnjnkocmaaZA21
set_option linter.unusedVariables false
namespace Go.Proofs.Ytklngjnjnkocmaa.DT
open Go Go.RowKit Go.Proofs.Ytklngjnjnkocmaa.MM Go.Proofs.Ytklngjnjnkocmaa.DM

/-- The k-th entry's term. -/
def tK (l : List Ent) (k : Nat) : List UInt8 := (l.getD k nilX).1
theorem tK_at {l : List Ent} {k : Nat} (h : k < l.length) : tK l k = l[k].1 := by unfold tK; rw [List.getD_eq_getElem?_getD, List.getElem?_eq_getElem h]; rfl
theorem tK_chunk {l : List Ent} {j k : Nat} (h : k < (chunk l j).length) : tK (chunk l j) k = tK l (16 * j + k) := by
  have h2 := chunk_size l j
  rw [tK_at h, tK_at (by omega), chunk_at h]
theorem first_tK {l : List Ent} {j : Nat} (h : j < chunksN l) : ((chunk l j).headD nilX).1 = tK l (16 * j) := by
  have h2 := chunk_size l j
  unfold chunksN at h
  have h3 : 0 < (chunk l j).length := by omega
  rw [← Nat.add_zero (16 * j), ← tK_chunk h3, tK_at h3]
  obtain ⟨c, hc⟩ : ∃ c, chunk l j = c := ⟨_, rfl⟩
  simp only [hc] at h3 ⊢
  cases c with
  | nil => simp at h3
  | cons x r => rfl

/-- A function value of a closure that tells a predicate of texts, and leaves what lies below the world's end, from a world on. -/
def Tells (H : Nat) (cb : Array Value) (q : List UInt8 → Bool) (w : World) : Prop :=
  (∀ args W, (callFunc H args).run Try.prog W = .ok (.enter H args) W) ∧ ∀ (W : World) (t : List UInt8), Below w.heap.size w W → Calls Try.prog H (#[.string ⟨t.toArray⟩] ++ cb) W fun e w' => e = .returned (.bool (q t)) ∧ Below W.heap.size W w'
theorem Tells.below {H : Nat} {cb : Array Value} {q : List UInt8 → Bool} {w w' : World} (h : Tells H cb q w) (hb : Below w.heap.size w w') : Tells H cb q w' := ⟨h.1, fun W t hW => h.2 W t (hb.trans (hW.mono hb.size))⟩

set_option maxRecDepth 100000 in
set_option maxHeartbeats 1000000 in
theorem c1_any (H : Nat) (cb : Array Value) (q : List UInt8 → Bool) (bh bd g : Nat) (l : List Ent) (j : Nat) (w : World) (hq : Tells H cb q w) (hh : w.cell? ⟨bh, 0, none⟩ = some (.func (.func H) #[] cb)) (hd : w.cell? ⟨bd, 0, none⟩ = some (.pointer (some ⟨g, 0, none⟩)))
    (hD : DictAt (fun _ => True) w g l) (hj : j < chunksN l) (hn : l.length ≤ 262144) : Calls Try.prog 63 (#[.int .i64 (j : Int)] ++ #[.pointer (some ⟨bh, 0, none⟩), .pointer (some ⟨bd, 0, none⟩)]) w fun e w' => e = .returned (.bool (!q (tK l (16 * j)))) ∧ Below w.heap.size w w' := by
  have hmx : Try.prog.follows .mixedOrders = true := by kernel_rfl
  have eg := hq.1
  obtain ⟨v, h2, _, h3⟩ := hD
  obtain ⟨pb, cap, rfl, hcb, hcm, _⟩ := h3.shape
  rw [blksOf_len] at h3 h2 hcb
  obtain ⟨bb, off, vb, rfl, hbl, b0, b1, hbody⟩ := blk_at h3 hj
  rw [first_tK hj] at b0
  have c1 := h2.c1
  have hgl := h2.lt
  obtain ⟨t, ht⟩ : ∃ t, tK l (16 * j) = t := ⟨_, rfl⟩
  rw [ht] at b0 ⊢
  obtain ⟨wd, hwd⟩ : ∃ wd, w.drew = wd := ⟨_, rfl⟩
  have hbd : Below w.heap.size w wd := by rw [← hwd]; exact (Below.refl _ _).drew
  have hlh := World.block_lt_of_cell? _ _ hh
  have hld := World.block_lt_of_cell? _ _ hd
  have hC := hq.2 wd t hbd
  have HC := Lib.hid hC
  have HBD := Lib.hid hbd
  have hNm : chunksN l ≤ 16384 := by unfold chunksN; omega
  have hjN : (j : Int) < (chunksN l : Int) := by omega
  generalize chunksN l = N at *
  have e1 := fun W (hW : Kep (fun _ => True) w W) => (hW.cell hlh trivial 0).trans hh
  have e2 := fun W (hW : Kep (fun _ => True) w W) => (hW.cell hld trivial 0).trans hd
  have e3 := fun W (hW : Kep (fun _ => True) w W) => (hW.cell hgl trivial 1).trans c1
  have e4 := fun W (hW : Kep (fun _ => True) w W) => (hW.cell hbl trivial (off + j * 2)).trans b0
  have hkd : Kep (fun _ => True) w wd := kep_below _ hbd
  have HKD := Lib.hid hkd
  have HWD := Lib.hid hwd
  clear hq hh hd h2 h3 hbody b0 b1 c1 ht hwd hbd hC hkd
  go_enter Try.func63, Try.ntmps63
  go_wp2_with fail
  refine RK.begin_ (T := fun _ => True) [(0, true), (1, true), (2, true), (3, true), (4, true), (5, true), (6, true), (7, true), (8, true), (9, false), (10, true), (11, true)] (by kernel_rfl) (by kernel_rfl) rfl (by kernel_rfl) (fun _ _ d _ _ h => by cases d <;> exact h) ?_
  simp only [RK.ordered, List.map_cons, List.map_nil, List.getElem?_toArray, List.getElem?_cons_succ, List.getElem?_cons_zero]
  rw [HWD.out]
  have f1 := fun W (hW : Kep (fun _ => True) wd W) => e1 W (HKD.out.trans hW)
  have f2 := fun W (hW : Kep (fun _ => True) wd W) => e2 W (HKD.out.trans hW)
  have f3 := fun W (hW : Kep (fun _ => True) wd W) => e3 W (HKD.out.trans hW)
  have f4 := fun W (hW : Kep (fun _ => True) wd W) => e4 W (HKD.out.trans hW)
  clear e1 e2 e3 e4
  repeat ((first | (refine RK.take (by rfl) (by intro W hW; go_simp; with_reducible rfl) ?_)); simp only [Act.put, List.setIfInBounds_toArray, List.set_cons_zero, List.set_cons_succ])
  refine RK.alone (by rfl) (fun K hK => ?_)
  go_simp
  refine HC.out.mono ?_
  rintro e w1 ⟨rfl, hb1⟩
  go_simp
  refine hK.out _ _ (kep_below _ hb1) ?_
  clear hK K
  have HB1 := Lib.hid (HBD.out.trans (hb1.mono HBD.out.size))
  clear hb1 HC
  repeat ((first | (refine RK.take (by rfl) (by intro W hW; go_simp; with_reducible rfl) ?_)); simp only [Act.put, List.setIfInBounds_toArray, List.set_cons_zero, List.set_cons_succ])
  refine RK.done ?_
  go_wp2_with fail
  go_ret
  exact ⟨rfl, HB1.out⟩

set_option maxRecDepth 100000 in
set_option maxHeartbeats 1000000 in
theorem c2_any (H : Nat) (cb : Array Value) (q : List UInt8 → Bool) (bh bl : Nat) (p : Option Addr) (n cap : Nat) (l : List Ent) (j : Nat) (w : World) (hq : Tells H cb q w) (hh : w.cell? ⟨bh, 0, none⟩ = some (.func (.func H) #[] cb)) (hd : w.cell? ⟨bl, 0, none⟩ = some (.slice p n cap))
    (hD : RAny entC w (.slice p n cap) l) (hj : j < l.length) (hn : l.length ≤ 262144) : Calls Try.prog 64 (#[.int .i64 (j : Int)] ++ #[.pointer (some ⟨bh, 0, none⟩), .pointer (some ⟨bl, 0, none⟩)]) w fun e w' => e = .returned (.bool (!q (tK l j))) ∧ Below w.heap.size w w' := by
  have hmx : Try.prog.follows .mixedOrders = true := by kernel_rfl
  have eg := hq.1
  obtain ⟨p', cap', hv, hcb, hcm, _⟩ := hD.shape
  simp only [Value.slice.injEq] at hv
  obtain ⟨rfl, rfl, rfl⟩ := hv
  obtain ⟨bb, off, rfl, hbl, _, b0, xa, xb, xc⟩ := ent_at hD hj
  clear xa xb xc
  rw [← tK_at hj] at b0
  obtain ⟨t, ht⟩ : ∃ t, tK l j = t := ⟨_, rfl⟩
  rw [ht] at b0 ⊢
  obtain ⟨wd, hwd⟩ : ∃ wd, w.drew = wd := ⟨_, rfl⟩
  have hbd : Below w.heap.size w wd := by rw [← hwd]; exact (Below.refl _ _).drew
  have hlh := World.block_lt_of_cell? _ _ hh
  have hld := World.block_lt_of_cell? _ _ hd
  have HC := Lib.hid (hq.2 wd t hbd)
  have HBD := Lib.hid hbd
  have hjN : (j : Int) < (l.length : Int) := by omega
  obtain ⟨N, hN⟩ : ∃ N, l.length = N := ⟨_, rfl⟩
  rw [hN] at hd hn hcb hjN
  clear hD hj hN
  have HKD : Hid (Kep (fun _ => True) w wd) := Lib.hid (kep_below _ hbd)
  have f1 := fun W (hW : Kep (fun _ => True) wd W) => ((HKD.out.trans hW).cell hlh trivial 0).trans hh
  have f2 := fun W (hW : Kep (fun _ => True) wd W) => ((HKD.out.trans hW).cell hld trivial 0).trans hd
  have f4 := fun W (hW : Kep (fun _ => True) wd W) => ((HKD.out.trans hW).cell hbl trivial (off + j * 4)).trans b0
  have HWD := Lib.hid hwd
  have HF := Lib.hid (And.intro f1 (And.intro f2 f4))
  clear hq hh hd b0 ht hwd hbd f1 f2 f4
  go_enter Try.func64, Try.ntmps64
  go_wp2_with fail
  refine RK.begin_ (T := fun _ => True) [(0, true), (1, true), (2, true), (3, true), (4, true), (5, true), (6, false), (7, true), (8, true)] (by kernel_rfl) (by kernel_rfl) rfl (by kernel_rfl) (fun _ _ d _ _ h => by cases d <;> exact h) ?_
  simp only [RK.ordered, List.map_cons, List.map_nil, List.getElem?_toArray, List.getElem?_cons_succ, List.getElem?_cons_zero]
  rw [HWD.out]
  obtain ⟨f1, f2, f4⟩ := HF.out
  repeat ((first | (refine RK.take (by rfl) (by intro W hW; go_simp; with_reducible rfl) ?_)); simp only [Act.put, List.setIfInBounds_toArray, List.set_cons_zero, List.set_cons_succ])
  refine RK.alone (by rfl) (fun K hK => ?_)
  go_simp
  refine HC.out.mono ?_
  rintro e w1 ⟨rfl, hb1⟩
  go_simp
  refine hK.out _ _ (kep_below _ hb1) ?_
  clear hK K
  have HB1 := Lib.hid (HBD.out.trans (hb1.mono HBD.out.size))
  clear hb1 HC
  repeat ((first | (refine RK.take (by rfl) (by intro W hW; go_simp; with_reducible rfl) ?_)); simp only [Act.put, List.setIfInBounds_toArray, List.set_cons_zero, List.set_cons_succ])
  refine RK.done ?_
  go_wp2_with fail
  go_ret
  exact ⟨rfl, HB1.out⟩

/-! ### the count -/
theorem turns_nil (p : Nat → Bool) : TurnsAt p 0 0 := ⟨Nat.le_refl _, fun h => by omega, fun h => by omega⟩
theorem turns_two {l : List Ent} {q : List UInt8 → Bool} {r s : Nat} (h1 : TurnsAt (fun j => !q (tK l (16 * j))) (chunksN l) r) (h0 : 0 < r) (h2 : TurnsAt (fun k => !q (tK (chunk l (r - 1)) k)) (chunk l (r - 1)).length s) : TurnsAt (fun k => !q (tK l k)) l.length ((r - 1) * 16 + s) := by
  obtain ⟨a1, a2, a3⟩ := h1
  obtain ⟨b1, b2, b3⟩ := h2
  have hs := chunk_size l (r - 1)
  have hN : chunksN l = (l.length + 15) / 16 := rfl
  have a2 := a2 h0
  dsimp only at a2 a3 b2 b3 ⊢
  have hs0 : 0 < s := by
    refine Nat.pos_of_ne_zero fun e => ?_
    subst e
    have h := b3 (by omega)
    rw [tK_chunk (by omega), Nat.add_zero, a2] at h
    cases h
  refine ⟨by omega, fun _ => ?_, fun hlt => ?_⟩
  · have h := b2 hs0
    rw [tK_chunk (by omega)] at h
    rw [show (r - 1) * 16 + s - 1 = 16 * (r - 1) + (s - 1) by omega]
    exact h
  · by_cases hsl : s < (chunk l (r - 1)).length
    · have h := b3 hsl
      rw [tK_chunk hsl] at h
      rw [show (r - 1) * 16 + s = 16 * (r - 1) + s by omega]
      exact h
    · have h := a3 (by omega)
      rw [show (r - 1) * 16 + s = 16 * r by omega]
      exact h
theorem turns_none {l : List Ent} {q : List UInt8 → Bool} (h1 : TurnsAt (fun j => !q (tK l (16 * j))) (chunksN l) 0) : TurnsAt (fun k => !q (tK l k)) l.length 0 := by
  obtain ⟨_, _, a3⟩ := h1
  exact ⟨by omega, fun h => by omega, fun hlt => a3 (by unfold chunksN; omega)⟩

/-- A count. -/
def CountLeft (l : List Ent) (q : List UInt8 → Bool) (w : World) (e : Ending) (w' : World) : Prop := ∃ c : Nat, e = .returned (.int .i64 (c : Int)) ∧ TurnsAt (fun k => !q (tK l k)) l.length c ∧ Below w.heap.size w w'

set_option maxRecDepth 100000 in
set_option maxHeartbeats 1000000 in
theorem count_any (p : Option Addr) (l : List Ent) (H : Nat) (cb : Array Value) (q : List UInt8 → Bool) (w : World) (hp : DictP (fun _ => True) w p l) (hq : Tells H cb q w) (hw : ∀ x ∈ l, okW x) (hn : l.length ≤ 262144) :
    Calls Try.prog 39 #[.pointer p, .func (.func H) #[] cb] w (CountLeft l q w) := by
  rcases hp with ⟨rfl, rfl⟩ | ⟨g, rfl, hD⟩
  · have H0 := Lib.hid (show ∀ w', Below w.heap.size w w' → CountLeft [] q w (.returned (.int .i64 0)) w' from fun w' hb => ⟨0, rfl, turns_nil _, hb⟩)
    have HB : Hid (Below w.heap.size w ((w.alloc (.cells #[.pointer none] 31)).alloc (.cells #[.func (.func H) #[] cb] 85))) := Lib.hid (((Below.refl _ _).alloc (Nat.le_refl _) _).alloc (by simp) _)
    clear hq
    go_enter Try.func39, Try.ntmps39
    go_wp2_with fail
    go_ret
    exact H0.out _ HB.out
  · obtain ⟨R, hR⟩ : ∃ R, w.heap.size = R := ⟨_, rfl⟩
    obtain ⟨wa, hwa⟩ : ∃ W, w.alloc (.cells #[.pointer (some ⟨g, 0, none⟩)] 31) = W := ⟨_, rfl⟩
    obtain ⟨wb, hwb⟩ : ∃ W, wa.alloc (.cells #[.func (.func H) #[] cb] 85) = W := ⟨_, rfl⟩
    have hba : Below w.heap.size w wa := by rw [← hwa]; exact (Below.refl _ _).alloc (Nat.le_refl _) _
    have hsa : wa.heap.size = R + 1 := by rw [← hwa, ← hR]; simp
    have hbb : Below wa.heap.size wa wb := by rw [← hwb]; exact (Below.refl _ _).alloc (Nat.le_refl _) _
    have hsb : wb.heap.size = R + 2 := by rw [← hwb]; simp [hsa]
    have x2 : wb.cell? ⟨R, 0, none⟩ = some (.pointer (some ⟨g, 0, none⟩)) := by rw [hbb.cell (p := ⟨R, 0, none⟩) (by show R < _; omega), ← hwa, ← hR, cell_of_row _ _ 0 _ _ _ (heap_alloc_new w _)]; rfl
    have x3 : wb.cell? ⟨R + 1, 0, none⟩ = some (.func (.func H) #[] cb) := by rw [← hwb, ← hsa, cell_of_row _ _ 0 _ _ _ (heap_alloc_new wa _)]; rfl
    have hb0 := hba.trans (hbb.mono (by omega))
    have hDb : DictAt (fun _ => True) wb g l := hD.keep (kep_below _ hb0) fun _ _ h => h
    have hqb := hq.below hb0
    have eg1 : ∀ args W, (callFunc 63 args).run Try.prog W = .ok (.enter 63 args) W := enters_of Try.func63 (by kernel_rfl) rfl
    have eg2 : ∀ args W, (callFunc 64 args).run Try.prog W = .ok (.enter 64 args) W := enters_of Try.func64 (by kernel_rfl) rfl
    have hNm : chunksN l ≤ 16384 := by unfold chunksN; omega
    have HS := Lib.hid (search_any 63 #[.pointer (some ⟨R + 1, 0, none⟩), .pointer (some ⟨R, 0, none⟩)] (chunksN l) (fun j => !q (tK l (16 * j))) wb eg1 (by omega)
      (fun W j hj hW => c1_any H cb q (R + 1) R g l j W (hqb.below hW) ((hW.cell (p := ⟨R + 1, 0, none⟩) (by show R + 1 < _; omega)).trans x3) ((hW.cell (p := ⟨R, 0, none⟩) (by show R < _; omega)).trans x2) (hDb.keep (kep_below _ hW) fun _ _ h => h) hj hn))
    have HQB := Lib.hid hqb
    have HDB := Lib.hid hDb
    have HB0 := Lib.hid hb0
    have HWA := Lib.hid hwa
    have HWB := Lib.hid hwb
    obtain ⟨v, t2, _, t3⟩ := hDb
    obtain ⟨pb, cap, rfl, hcb, hcm, _⟩ := t3.shape
    rw [blksOf_len] at t2 hcb
    have c1 := t2.c1
    have c1n := c1
    rw [← hwb, ← hwa] at c1n
    have X2 := Lib.hid x2
    have X3 := Lib.hid x3
    clear hwa hwb hba hbb hD hq hqb hb0 t2 t3 x3
    go_enter Try.func39, Try.ntmps39
    go_wp2_with fail
    rw [HWA.out, HWB.out]
    go_wp2_with fail
    refine HS.out.mono ?_
    rintro e w1 ⟨r, rfl, hT, hb1⟩
    have hs1 := hb1.size
    have HB1 := Lib.hid (HB0.out.trans (hb1.mono (by omega)))
    by_cases hr0 : r = 0
    · subst hr0
      have HT := Lib.hid (turns_none hT)
      clear hT hb1 HS
      go_wp2_with fail
      go_ret
      exact ⟨0, rfl, HT.out, HB1.out⟩
    · have q1 : ((r : Int) == 0) = false := by rw [beq_eq_false_iff_ne]; omega
      have hrN : r ≤ chunksN l := hT.1
      have HT := Lib.hid hT
      obtain ⟨v1, t1, _, t3⟩ := HDB.out.keep (T := fun _ => True) (kep_below _ hb1) fun _ _ h => h
      obtain ⟨pb1, cap1, rfl, hcb1, hcm1, _⟩ := t3.shape
      rw [blksOf_len] at t3 t1 hcb1
      obtain ⟨bb, off, vb, rfl, hbl, b0, b1, hbody⟩ := blk_at t3 (k := r - 1) (by omega)
      have y2 : w1.cell? ⟨R, 0, none⟩ = some (.pointer (some ⟨g, 0, none⟩)) := (hb1.cell (p := ⟨R, 0, none⟩) (by show R < _; omega)).trans X2.out
      have d1 := t1.c1
      obtain ⟨J, hJ⟩ : ∃ J, r - 1 = J := ⟨_, rfl⟩
      rw [hJ] at b0 b1 hbody
      have hrJ : (r : Int) - 1 = (J : Int) := by omega
      have hJN : (J : Int) < (chunksN l : Int) := by omega
      obtain ⟨Z, hZ⟩ : ∃ Z : Nat, (r - 1) * 16 = Z := ⟨_, rfl⟩
      have hJ16 : (J : Int) * 16 = (Z : Int) := by omega
      have HZ := Lib.hid hZ
      have hZb : Z ≤ 262144 := by omega
      clear hZ
      have hcl := chunk_size l J
      obtain ⟨FT, hFT⟩ : ∃ s : ByteArray, (⟨((chunk l J).headD nilX).1.toArray⟩ : ByteArray) = s := ⟨_, rfl⟩
      rw [hFT] at b0
      have HENTS := Lib.hid (blkents_any FT vb (chunk l J) w1 (chunk_w hw J) (by omega) hbody)
      obtain ⟨pv, cv, rfl, _⟩ := hbody.shape
      have Y3 : Hid (w1.cell? ⟨R + 1, 0, none⟩ = some (.func (.func H) #[] cb)) := Lib.hid ((hb1.cell (p := ⟨R + 1, 0, none⟩) (by show R + 1 < _; omega)).trans X3.out)
      have HQ1 := Lib.hid (HQB.out.below hb1)
      have HJ := Lib.hid hJ
      have HR0 := Lib.hid hr0
      clear hT hb1 HS hFT t1 t3 hbody hJ hr0 c1 c1n x2
      go_wp2_with fail
      refine HENTS.out.mono ?_
      rintro e w2 ⟨v2, rfl, ho2, hb2⟩
      obtain ⟨p2, c2, rfl, hl2, hm2, _⟩ := ho2.any.shape
      have hs2 := hb2.size
      obtain ⟨w3, hw3⟩ : ∃ W, w2.alloc (.cells #[.slice p2 (chunk l J).length c2] 22) = W := ⟨_, rfl⟩
      have hb3 : Below w2.heap.size w2 w3 := by rw [← hw3]; exact (Below.refl _ _).alloc (Nat.le_refl _) _
      have z1 : w3.cell? ⟨w2.heap.size, 0, none⟩ = some (.slice p2 (chunk l J).length c2) := by rw [← hw3, cell_of_row _ _ 0 _ _ _ (heap_alloc_new w2 _)]; rfl
      have z2 : w3.cell? ⟨R + 1, 0, none⟩ = some (.func (.func H) #[] cb) := (hb3.cell (p := ⟨R + 1, 0, none⟩) (by show R + 1 < _; omega)).trans ((hb2.cell (p := ⟨R + 1, 0, none⟩) (by show R + 1 < _; omega)).trans Y3.out)
      have hbt : Below w1.heap.size w1 w3 := hb2.trans (hb3.mono hs2)
      have hs3 := hbt.size
      have ho3 := RAny.below ho2.any hb3
      have HS2 := Lib.hid (search_any 64 #[.pointer (some ⟨R + 1, 0, none⟩), .pointer (some ⟨w2.heap.size, 0, none⟩)] (chunk l J).length (fun k => !q (tK (chunk l J) k)) w3 eg2 (by omega)
        (fun W j hj hW => c2_any H cb q (R + 1) w2.heap.size p2 _ c2 (chunk l J) j W ((HQ1.out.below hbt).below hW) ((hW.cell (p := ⟨R + 1, 0, none⟩) (by show R + 1 < _; omega)).trans z2) ((hW.cell (p := ⟨w2.heap.size, 0, none⟩) (World.block_lt_of_cell? _ _ z1)).trans z1) (ho3.below hW) hj (by omega)))
      have HB3 := Lib.hid (HB1.out.trans (hbt.mono (by omega)))
      have HW3 := Lib.hid hw3
      have HCL : Hid ((chunk l J).length ≤ 16) := Lib.hid (by omega)
      clear ho2 hb2 hw3 hb3 z2 hbt ho3 HENTS b0 b1 hcl
      go_wp2_with fail
      rw [HW3.out]
      go_wp2_with fail
      refine HS2.out.mono ?_
      rintro e w4 ⟨s, rfl, hT2, hb4⟩
      have HB4 := Lib.hid (HB3.out.trans (hb4.mono (by omega)))
      have hsc := hT2.1
      have hc16 := HCL.out
      obtain ⟨Y, hY⟩ : ∃ Y : Nat, Z + s = Y := ⟨_, rfl⟩
      have hsum : (Z : Int) + (s : Int) = (Y : Int) := by omega
      have HT2 := Lib.hid (turns_two HT.out (Nat.pos_of_ne_zero HR0.out) (by rw [HJ.out]; exact hT2))
      rw [HZ.out, hY] at HT2
      have hb62 : Y ≤ 300000 := by omega
      clear hT2 hb4 HS2 hY
      go_wp2_with fail
      go_ret
      exact ⟨Y, rfl, HT2.out, HB4.out⟩
end Go.Proofs.Ytklngjnjnkocmaa.DT
