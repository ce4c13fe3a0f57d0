/-
  The event that stands first in any bytes, the code's Get, as XEvtGet; its fields lie in new blocks that are fields'. Condition: fewer than 10^12 bytes. What layer 12's statements ask of the code's functions: their contracts, as one structure. No program's proof of its own. The document's example of layer 12. No condition but the code's contracts.
-/
import Derived.Test.YthgfaadlnffpcaaZA26
import Derived.Test.YthgfaadlnffpcaaZA31
import Derived.Test.YthgfaadlnffpcaaZA32
set_option linter.unusedVariables false
namespace Go.Proofs.Ythgfaadlnffpcaa.EV
open Go Go.RowKit Go.Proofs.Ythgfaadlnffpcaa.MM Go.Proofs.Ythgfaadlnffpcaa.EM Go.Proofs.Ythgfaadlnffpcaa.VM
open Go.Proofs.Ythgfaadlnffpcaa.VP

theorem newf_keep {T : Nat → Prop} {wa w1 w2 : World} {u : Value} {fs : List Fld} (h : ROn fldC (NewF wa w1) w1 u fs) (hk : Kep T w1 w2) (hT : ∀ b, wa.heap.size ≤ b → T b) : ROn fldC (NewF wa w2) w2 u fs :=
  ROn.keep h (hk.mono fun b hb => hT b hb.1) fun b hb hn => ⟨hn.1, hn.2.keep hk (hT b hn.1)⟩
/-- What Get leaves. -/
def CGotF (s : Ev × List UInt8 × Int) (w : World) (e : Ending) (w' : World) : Prop :=
  ∃ u v, e = .returned (.tuple #[.agg #[.int .i64 s.1.1, u], v, .int .i64 s.2.2]) ∧ ROn fldC (NewF w w') w' u s.1.2 ∧ OwnB w.heap.size w' v s.2.1 ∧ Below w.heap.size w w'

set_option maxRecDepth 100000 in
set_option maxHeartbeats 2000000 in
theorem cgetF_any (v : Value) (l : List UInt8) (w : World) (hv : BRow w v l) (hl : l.length ≤ 1000000000000) : Calls Try.prog 82 #[v] w (CGotF (getR l) w) := by
  have hmx : Try.prog.follows .mixedOrders = true := by kernel_rfl
  obtain ⟨pv, cv, rfl, _⟩ := hv.shape
  obtain ⟨z, fs, l1, o1, hst⟩ : ∃ z fs l1 o1, evSt l false = ((z, fs), l1, o1) := ⟨_, _, _, _, rfl⟩
  have hodd := get_odd (l := l)
  have hbad := get_bad (l := l)
  have hgood := get_good (l := l)
  rw [hst] at hodd hbad hgood
  have HODD := Lib.hid hodd
  have HBAD := Lib.hid hbad
  have HGOOD := Lib.hid hgood
  -- the result's block, the reader's
  obtain ⟨wa, hwa⟩ : ∃ wa, (w.alloc (.cells #[.int .i64 0, .slice none 0 0] 43)).alloc (.cells #[.slice pv l.length cv, .bool false] 121) = wa := ⟨_, rfl⟩
  have hba : Below w.heap.size w wa := by rw [← hwa]; exact ((Below.refl _ _).alloc (Nat.le_refl _) _).alloc (by simp) _
  have hsa : wa.heap.size = w.heap.size + 2 := by rw [← hwa]; simp
  have t0 : Two wa w.heap.size 43 (.int .i64 0) (.slice none 0 0) := by
    rw [← hwa]; exact (two_new w 43 _ _).keep (kep_alloc (fun _ => True) _ _) trivial
  have hrd : Rd w.heap.size wa (w.heap.size + 1) l false := by
    refine ⟨.slice pv l.length cv, ?_, BIn.below hv hba⟩
    rw [← hwa]
    have := heap_alloc_new (w.alloc (.cells #[.int .i64 0, .slice none 0 0] 43)) (.cells #[.slice pv l.length cv, .bool false] 121)
    simp only [World.size_alloc] at this
    exact this
  have HE := Lib.hid (event_any w.heap.size (w.heap.size + 1) l false wa hrd (by omega))
  rw [hst] at HE
  have HFAIL : Hid (∀ W a b, Two W w.heap.size 43 a b → Below w.heap.size w W → getE l = none →
      CGotF (getR l) w (.returned (.tuple #[.agg #[.int .i64 0, .slice none 0 0], .slice none 0 0, .int .i64 100])) ((W.setCell ⟨w.heap.size, 0, none⟩ (.int .i64 0)).setCell ⟨w.heap.size, 1, none⟩ (.slice none 0 0))) := Lib.hid (fun W a b ht hb hn => by
    rw [getR_none hn]
    exact ⟨_, _, rfl, ROn.nil_ _ _, World.ownsRow_nil _ _ _ _, hb.trans ((kep_set01 (.int .i64 0) (.slice none 0 0)).below (B := w.heap.size) (Nat.le_of_lt ht.lt) (fun k hk => by omega))⟩)
  have T0 := Lib.hid t0
  have HBA := Lib.hid hba
  have HWA := Lib.hid hwa
  clear hodd hbad hgood hst hrd t0 hba hv hwa
  go_enter Try.func82, Try.ntmps82
  go_wp2_with fail
  rw [HWA.out]
  refine HE.out.mono ?_
  rintro e w1 ⟨u, rfl, hu, hr1, hk1⟩
  have hr1 : Rd w.heap.size w1 (w.heap.size + 1) l1 o1 := hr1
  have hs1 := hk1.size
  have t1 : Two w1 w.heap.size 43 (.int .i64 0) (.slice none 0 0) := T0.out.keep hk1 (by omega)
  have HT2 := Lib.hid (t1.s01 (.int .i64 z) u)
  have hk2 : Kep (fun b => b ≠ w.heap.size) w1 ((w1.setCell ⟨w.heap.size, 0, none⟩ (.int .i64 z)).setCell ⟨w.heap.size, 1, none⟩ u) := kep_set01 _ _
  obtain ⟨a0, a1, a2, a3, a4, a5⟩ := t1.all (.int .i64 z)
  obtain ⟨w2, hw2⟩ : ∃ w2, (w1.setCell ⟨w.heap.size, 0, none⟩ (.int .i64 z)).setCell ⟨w.heap.size, 1, none⟩ u = w2 := ⟨_, rfl⟩
  rw [hw2] at HT2 hk2
  have hs2 := hk2.size
  have HW2 := Lib.hid hw2
  have hb2 : Below w.heap.size w w2 := HBA.out.trans ((hk1.below (B := w.heap.size) (by omega) (fun k hk => by omega)).trans (hk2.below (by omega) (fun k hk => by omega)))
  have hu2 : ROn fldC (NewF wa w2) w2 u fs := newf_keep hu hk2 (fun b hb => by omega)
  have hr2 : Rd w.heap.size w2 (w.heap.size + 1) l1 o1 := hr1.keep hk2 (by omega) (fun k hk => by omega) (by omega)
  have HB2 := Lib.hid hb2
  have HU2 := Lib.hid hu2
  obtain ⟨vl, hc2, hl2⟩ := hr2
  have HVL := Lib.hid hl2
  have g0 := cell_of_row w2 (w.heap.size + 1) 0 _ _ _ hc2
  have g1 := cell_of_row w2 (w.heap.size + 1) 1 _ _ _ hc2
  obtain ⟨pu, cu, hpu, _⟩ := hu2.shape
  subst hpu
  have e0 := HT2.out.c0
  have e1 := HT2.out.c1
  have HC2 := Lib.hid hc2
  rw [← HW2.out] at g0 g1 e0 e1
  clear hu hr1 hk1 t1 hk2 hw2 hb2 hu2 hl2 hc2 HE
  cases o1 with
  | true =>
    have HQ := Lib.hid (HFAIL.out w2 _ _ HT2.out HB2.out (HODD.out rfl))
    have HX := Lib.hid (HT2.out.s01 (.int .i64 0) (.slice none 0 0))
    obtain ⟨_, _, b2, b3, b4, b5⟩ := HT2.out.all (.int .i64 0)
    rw [← HW2.out] at HQ HX b2 b3 b4 b5
    clear HU2 HVL HC2 HFAIL HODD HBAD HGOOD HW2 HT2
    go_wp2_with fail
    refine bodyPost_ret (results_box3 (p := 2) (u := 3) (v := 4) rfl Try.underlying43 rfl infoEv2 _ _ w.heap.size _ _ rfl HX.out) rfl HQ.out
  | false =>
    go_wp2_with fail
    rw [HW2.out]
    rw [HW2.out] at g0 g1 e0 e1
    refine (check_any z _ fs w2 HU2.out.any).mono ?_
    rintro e w3 ⟨rfl, hb3⟩
    have ht3 := HT2.out.keep (kep_below (fun _ => True) hb3) trivial
    have HB3 := Lib.hid (HB2.out.trans (hb3.mono HB2.out.size))
    have HT3 := Lib.hid ht3
    have hs3 := hb3.size
    have hc3 := (hb3.block (w.heap.size + 1) (by omega)).trans HC2.out
    have HV3 := Lib.hid (HVL.out.below (hb3.mono (by omega)))
    have HU3 := Lib.hid (newf_keep HU2.out (kep_below (fun _ => True) hb3) fun _ _ => trivial)
    obtain ⟨c, hc⟩ : ∃ c, checkE (z, fs) = c := ⟨_, rfl⟩
    rw [hc] at HBAD HGOOD ⊢
    by_cases hz : c = 0
    · subst hz
      have hgd := HGOOD.out (by trivial) rfl
      have HGR := Lib.hid (getR_some hgd)
      have k0 := cell_of_row w3 (w.heap.size + 1) 0 _ _ _ hc3
      have hl1 : l1.length ≤ 1000000000000 := by
        have := congrArg List.length (getE_back hgd).1
        rw [List.length_append] at this
        omega
      clear hb3 ht3 hc3 hgd hc HODD HBAD HGOOD HU2 HVL HC2 HT2 HFAIL g0 g1 e0 e1 a0 a1 a2 a3 a4 a5
      go_wp2_with fail
      refine RS.begin_ (T := fun b => b < w3.heap.size) [(0, true), (1, true), (2, true), (3, false)] hmx (by kernel_rfl) (fun _ _ d _ _ h => by cases d <;> exact h) ?_
      simp only [RS.ordered, List.map_cons, List.map_nil, List.getElem?_toArray, List.getElem?_cons_succ, List.getElem?_cons_zero]
      obtain ⟨wd, hwd⟩ : ∃ wd, w3.drew = wd := ⟨_, rfl⟩
      have hbd : Below w3.heap.size w3 wd := by rw [← hwd]; exact (Below.refl _ _).drew
      have htd := HT3.out.below hbd HT3.out.lt
      have G := Lib.hid (fun W (hW : Kep (fun b => b < w3.heap.size) wd W) => (show W.cell? ⟨w.heap.size, 0, none⟩ = some (.int .i64 z) ∧ W.cell? ⟨w.heap.size, 1, none⟩ = some (.slice pu fs.length cu) ∧ W.cell? ⟨w.heap.size + 1, 0, none⟩ = some vl from
        ⟨(htd.keep hW (by omega)).c0, (htd.keep hW (by omega)).c1, (hW.cell (by have := hbd.size; omega) (by omega) 0).trans ((hbd.cell (p := ⟨w.heap.size + 1, 0, none⟩) (show w.heap.size + 1 < w3.heap.size by omega)).trans k0)⟩))
      have HCL := Lib.hid (bclone_any vl l1 wd (BRow.below (BIn.row HV3.out (by omega)) hbd) hl1)
      have HTD := Lib.hid htd
      have HBD := Lib.hid hbd
      have HUD := Lib.hid (newf_keep HU3.out (kep_below (fun _ => True) hbd) fun _ _ => trivial)
      rw [hwd]
      have hsd := hbd.size
      clear hwd hbd htd HT3 HU3 HV3 k0
      repeat (refine RS.take (by rfl) (by intro W hW; obtain ⟨f1, f2, f3⟩ := G.out W hW; go_simp; with_reducible rfl) ?_; simp only [Act.put, List.setIfInBounds_toArray, List.set_cons_zero, List.set_cons_succ])
      refine RS.alone (by rfl) (fun K hK => ?_)
      go_simp
      refine HCL.out.mono ?_
      rintro e w4 ⟨v4, rfl, ho4, hb4⟩
      go_simp
      refine hK.out _ _ (kep_below _ hb4) ?_
      clear hK K
      have ht4 := HTD.out.below hb4 HTD.out.lt
      obtain ⟨_, _, b2, b3, b4, b5⟩ := ht4.all (.int .i64 z)
      have HX := Lib.hid (ht4.s01 (.int .i64 z) (.slice pu fs.length cu))
      have hs4 := hb4.size
      have hk5 : Kep (fun b => b ≠ w.heap.size) w4 ((w4.setCell ⟨w.heap.size, 0, none⟩ (.int .i64 z)).setCell ⟨w.heap.size, 1, none⟩ (.slice pu fs.length cu)) := kep_set01 _ _
      have HQ : Hid (CGotF (getR l) w (.returned (.tuple #[.agg #[.int .i64 z, .slice pu fs.length cu], v4, .int .i64 0])) ((w4.setCell ⟨w.heap.size, 0, none⟩ (.int .i64 z)).setCell ⟨w.heap.size, 1, none⟩ (.slice pu fs.length cu))) := Lib.hid (by
        rw [HGR.out]
        refine ⟨_, _, rfl, ?_, ?_, ?_⟩
        · have h1 := newf_keep HUD.out (kep_below (fun _ => True) hb4) fun _ _ => trivial
          exact (newf_keep h1 hk5 (fun b hb => by omega)).weak fun b _ hb => ⟨by have := hb.1; omega, hb.2⟩
        · exact OwnB.weaken (GB.OwnB.kepOwn ho4 hk5 (fun k hk => by have := (World.ownsRow.lt ho4 k hk).1; omega)) (by omega)
        · exact (HB3.out.trans ((HBD.out.trans (hb4.mono hsd)).mono HB3.out.size)).trans (hk5.below (by omega) (fun k hk => by omega)))
      clear ht4 ho4 hb4 hk5 HTD HBD HUD G HCL HGR HB3
      refine RS.done ?_
      simp only [List.length_cons, List.length_nil, List.drop_succ_cons, List.drop_zero, Nat.zero_add, Nat.reduceAdd]
      go_wp2_with fail
      refine bodyPost_ret (results_box3 (p := 2) (u := 3) (v := 4) rfl Try.underlying43 rfl infoEv2 _ _ w.heap.size _ _ rfl HX.out) rfl HQ.out
    · have q1 : (c != 0) = true := by rw [bne_iff_ne]; exact hz
      have HQ := Lib.hid (HFAIL.out w3 _ _ HT3.out HB3.out (HBAD.out (by trivial) hz))
      have HX := Lib.hid (HT3.out.s01 (.int .i64 0) (.slice none 0 0))
      obtain ⟨_, _, b2, b3, b4, b5⟩ := HT3.out.all (.int .i64 0)
      clear HU2 HVL HC2 HFAIL HODD HBAD HGOOD HW2 HT2 hb3 ht3 hc3 HU3 HV3
      go_wp2_with fail
      refine bodyPost_ret (results_box3 (p := 2) (u := 3) (v := 4) rfl Try.underlying43 rfl infoEv2 _ _ w.heap.size _ _ rfl HX.out) rfl HQ.out
end Go.Proofs.Ythgfaadlnffpcaa.EV
set_option linter.unusedVariables false
namespace Go.Proofs.Ythgfaadlnffpcaa.ST
open Go Go.RowKit Go.Proofs.Ythgfaadlnffpcaa.MM Go.Proofs.Ythgfaadlnffpcaa.EM Go.Proofs.Ythgfaadlnffpcaa.SM
open Go.Proofs.Ythgfaadlnffpcaa.EV (docC evC fldC doc_at doc_on docE BoolLeft IntLeft)

/-- Bytes and an error's number. -/
def CodeA (l : List UInt8) (x : Int) (w : World) (e : Ending) (w' : World) : Prop := ∃ v, e = .returned (.tuple #[v, .int .i64 x]) ∧ BRow w' v l ∧ Below w.heap.size w w'
/-- Docs and an error's number. -/
def DocsA (l : List Doc) (x : Int) (w : World) (e : Ending) (w' : World) : Prop := ∃ u, e = .returned (.tuple #[u, .int .i64 x]) ∧ RAny docC w' u l ∧ Below w.heap.size w w'
/-- A doc and an error's number. -/
def DocA (d : Doc) (x : Int) (w : World) (e : Ending) (w' : World) : Prop := ∃ u, e = .returned (.tuple #[.agg #[.int .i64 d.1, .int .i64 d.2.1, u], .int .i64 x]) ∧ RAny fldC w' u d.2.2 ∧ Below w.heap.size w w'
/-- A doc that is found, or is not, and an error's number. -/
def FoundA (o : Option Doc) (x : Int) (w : World) (e : Ending) (w' : World) : Prop := ∃ u, e = .returned (.tuple #[.agg #[.int .i64 (o.getD noDoc).1, .int .i64 (o.getD noDoc).2.1, u], .bool o.isSome, .int .i64 x]) ∧ RAny fldC w' u (o.getD noDoc).2.2 ∧ Below w.heap.size w w'
def errD (o : Option (List Doc)) : Int := if o.isSome then 0 else 120
def atB (o : Option (List Doc)) (i : Int) : Doc × Int := match o with
  | none => (noDoc, 120)
  | some l => atS l i
def findB (o : Option (List Doc)) (seq : Int) : Option Doc := match o with
  | none => none
  | some l => findS l seq
def someB (o : Option (List Doc)) (zs : List Int) : List Doc × Int := match o with
  | none => ([], 120)
  | some l => someS l zs []
structure Owes : Prop where
  check : ∀ v l w, RAny docC w v l → Calls Try.prog 10 #[v] w (IntLeft (if isS l then 0 else 120) w)
  same : ∀ u v xs ys w, RAny docC w u xs → RAny docC w v ys → Calls Try.prog 12 #[u, v] w (BoolLeft (decide (xs = ys)) w)
  enc : ∀ v l w, RAny docC w v l → FitS l → Calls Try.prog 15 #[v] w (CodeA (if isS l then encS l else []) (if isS l then 0 else 120) w)
  dec : ∀ v bs w, BRow w v bs → bs.length ≤ 10000000000 → Calls Try.prog 17 #[v] w (DocsA ((decS bs).getD []) (errD (decS bs)) w)
  count : ∀ v bs w, BRow w v bs → bs.length ≤ 10000000000 → Calls Try.prog 19 #[v] w fun e w' => e = .returned (.tuple #[.int .i64 (((decS bs).getD []).length : Nat), .int .i64 (errD (decS bs))]) ∧ Below w.heap.size w w'
  at_ : ∀ v bs i w, BRow w v bs → bs.length ≤ 10000000000 → -9223372036854775808 ≤ i → i ≤ 9223372036854775807 → Calls Try.prog 20 #[v, .int .i64 i] w (DocA (atB (decS bs) i).1 (atB (decS bs) i).2 w)
  find : ∀ v bs seq w, BRow w v bs → bs.length ≤ 10000000000 → -9223372036854775808 ≤ seq → seq ≤ 9223372036854775807 → Calls Try.prog 21 #[v, .int .i64 seq] w (FoundA (findB (decS bs) seq) (errD (decS bs)) w)
  some_ : ∀ v bs pv zs w, BRow w v bs → bs.length ≤ 10000000000 → IRow w pv zs → zs.length ≤ 1000000 → (∀ z ∈ zs, -9223372036854775808 ≤ z ∧ z ≤ 9223372036854775807) → Calls Try.prog 22 #[v, pv] w (DocsA (someB (decS bs) zs).1 (someB (decS bs) zs).2 w)
/-- The reference's, in the same words. -/
theorem renc_a (v : Value) (l : List Doc) (w : World) (hv : RAny docC w v l) (hf : FitS l) : Calls Try.prog 16 #[v] w (CodeA (if isS l then encS l else []) (if isS l then 0 else 120) w) :=
  (renc_any v l w hv hf).mono fun e w' ⟨u, h1, h2, h3⟩ => ⟨u, h1, OwnB.brow h2, h3⟩
theorem rdec_a (v : Value) (bs : List UInt8) (w : World) (h : BRow w v bs) : Calls Try.prog 18 #[v] w (DocsA ((decS bs).getD []) (errD (decS bs)) w) :=
  (rdec_any v bs w h).mono fun e w' ⟨u, S, h1, h2, _, h3⟩ => ⟨u, h1, h2.any, h3⟩
theorem encS_most {l : List Doc} (h : isS l = true) : (encS l).length ≤ 10000000000 := by
  have h1 := (isS_iff.1 h).1
  have h2 := (VM.bytesL_length l.length).2
  have h3 := headsB_len l 0 (blocksN l.length)
  have h4 := (rangeB_len h (i := 0) (k := l.length) (by omega) (Nat.le_refl _)).1
  unfold encS blocksN at *
  simp only [List.length_append]
  omega
theorem dec_fit {bs : List UInt8} : FitS ((decS bs).getD []) := by
  cases h : decS bs with
  | none => intro d hd; simp at hd
  | some l => exact (decS_back h).2.1
end Go.Proofs.Ythgfaadlnffpcaa.ST
set_option linter.unusedVariables false
namespace Go.Proofs.Ythgfaadlnffpcaa.ST
open Go Go.RowKit Go.Proofs.Ythgfaadlnffpcaa.MM Go.Proofs.Ythgfaadlnffpcaa.EM Go.Proofs.Ythgfaadlnffpcaa.SM
open Go.Proofs.Ythgfaadlnffpcaa.EV (docC evC fldC doc_at doc_on docE BoolLeft IntLeft)

def exD : Doc := (1, (0, []))
def exB : List UInt8 := [1, 1, 3, 0, 0, 0]
theorem ex_is : isS [exD] = true := by decide +kernel
theorem ex_enc : encS [exD] = exB := by decide +kernel
theorem ex_fit : FitS [exD] := fun d hd => by
  obtain rfl := List.mem_singleton.1 hd
  exact ⟨by decide, by decide⟩
theorem ex_dec : decS exB = some [exD] := decS_iff.2 ⟨ex_is, ex_fit, ex_enc⟩
theorem ex_none : decS [0] = some [] := decS_iff.2 ⟨by decide +kernel, fun d hd => by simp at hd, by decide +kernel⟩
theorem docs_lit (w : World) : RAny docC (w.alloc (.cells #[.int .i64 1, .int .i64 0, .slice none 0 0] 45)) (.slice (some ⟨w.heap.size, 0, none⟩) 1 1) [exD] :=
  ROn.any (ron_lit (e := 45) (S := fun _ => True) w [[.int .i64 1, .int .i64 0, .slice none 0 0]] [exD] (by unfold maxLen; simp) (Mean.single (doc_on.2 ⟨_, rfl, ROn.nil_ _ _⟩)))

set_option maxRecDepth 100000 in
set_option maxHeartbeats 1000000 in
theorem awake_any (O : Owes) (w : World) : Calls Try.prog 9 #[] w fun e w' => e = .returned (.bool true) ∧ Below w.heap.size w w' := by
  obtain ⟨w0, hw0⟩ : ∃ W, w.alloc (.cells #[.int .i64 1, .int .i64 0, .slice none 0 0] 45) = W := ⟨_, rfl⟩
  have hb0 : Below w.heap.size w w0 := by rw [← hw0]; exact (Below.refl _ _).alloc (Nat.le_refl _) _
  have hlit : RAny docC w0 (.slice (some ⟨w.heap.size, 0, none⟩) 1 1) [exD] := by rw [← hw0]; exact docs_lit w
  have henc := O.enc _ [exD] w0 hlit ex_fit
  rw [ex_is, if_pos rfl, if_pos rfl, ex_enc] at henc
  have HE := Lib.hid henc
  have HB0 := Lib.hid hb0
  have HW0 := Lib.hid hw0
  have HO := Lib.hid O
  clear hw0 hb0 hlit henc
  go_enter Try.func9, Try.ntmps9
  go_wp2_with fail
  rw [HW0.out]
  refine HE.out.mono ?_
  rintro e w2 ⟨v2, rfl, hr2, hb2⟩
  have HD := Lib.hid (HO.out.dec v2 exB w2 hr2 (by decide))
  rw [ex_dec] at HD
  have HR2 := Lib.hid hr2
  have HB2 := Lib.hid (HB0.out.trans (hb2.mono HB0.out.size))
  clear hr2 hb2 HE HB0 HW0
  go_wp2_with fail
  refine HD.out.mono ?_
  rintro e w3 ⟨u3, rfl, hu3, hb3⟩
  have hs2 := HB2.out.size
  have hsz3 := hb3.size
  have HB3 := Lib.hid (HB2.out.trans (hb3.mono hs2))
  have HR3 := Lib.hid (BIn.below HR2.out hb3)
  have hu3 : RAny docC w3 u3 [exD] := hu3
  have HU3 := Lib.hid hu3
  obtain ⟨w4, hw4⟩ : ∃ W, w3.alloc (.cells #[.int .u8 0] 5) = W := ⟨_, rfl⟩
  have hb4 : Below w3.heap.size w3 w4 := by rw [← hw4]; exact (Below.refl _ _).alloc (Nat.le_refl _) _
  have hlit : BRow w4 (.slice (some ⟨w3.heap.size, 0, none⟩) 1 1) [0] := by
    rw [← hw4]
    exact Row.of_own (own_lit w3 [.int .u8 0] 5 0 (Nat.zero_le _) (by unfold maxLen; simp))
  have HC := Lib.hid (HO.out.count _ [0] w4 hlit (by decide))
  rw [ex_none] at HC
  have HW4 := Lib.hid hw4
  have HB4 := Lib.hid (HB3.out.trans (hb4.mono HB3.out.size))
  have HH4 := Lib.hid hb4
  clear hu3 hb3 hw4 hb4 hlit HD HR2 HB2 hs2
  go_wp2_with fail
  rw [HW4.out]
  refine HC.out.mono ?_
  rintro e w5 ⟨rfl, hb5⟩
  have hs4 := HB4.out.size
  have HB5 := Lib.hid (HB4.out.trans (hb5.mono hs4))
  have hb35 : Below w3.heap.size w3 w5 := HH4.out.trans (hb5.mono HH4.out.size)
  have hconv := (BIn.below HR3.out (hb35.mono hsz3)).conv
  have hrow := RAny.below HU3.out hb35
  obtain ⟨p3, c3, hp3, _⟩ := hrow.shape
  subst hp3
  obtain ⟨b, off, vf, rfl, hbl, _, c1, _, _, _⟩ := doc_at hrow (k := 0) (by simp)
  unfold exB at hconv
  have d1 : w5.cell? ⟨b, off, none⟩ = some (.int .i64 1) := by simpa [exD] using c1
  clear hb5 hb35 hrow HC HR3 HU3 HW4 HB4 HB3 c1
  go_wp2_with fail
  go_ret
  exact ⟨rfl, HB5.out⟩
end Go.Proofs.Ythgfaadlnffpcaa.ST
