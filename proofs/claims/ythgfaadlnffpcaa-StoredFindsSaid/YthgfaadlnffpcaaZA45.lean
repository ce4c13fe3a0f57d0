/-
  A doc in new memory: the code's copyOf (slices.Clone of fields); how many docs bytes have: the code's Count. Condition: a million fields at most; fewer than 10^10 bytes. The docs at places of a row of bytes, the doc at a place: the code's Some, At. Conditions: fewer than 10^10 bytes; a million places at most.
-/
import Derived.Laws.MakeOwn
import Derived.Test.YthgfaadlnffpcaaZA44
import Derived.Test.YthgfaadlnffpcaaZA33
set_option linter.unusedVariables false
namespace Go.Proofs.Ythgfaadlnffpcaa.SR
open Go Go.RowKit Go.Proofs.Ythgfaadlnffpcaa.MM Go.Proofs.Ythgfaadlnffpcaa.VM Go.Proofs.Ythgfaadlnffpcaa.SM
open Go.Proofs.Ythgfaadlnffpcaa.EM (Fld Ev)
open Go.Proofs.Ythgfaadlnffpcaa.EV (fldC fldE fld_src docC docE doc_on doc_at IsF NewF newf_keep)

theorem infoDoc3 : (Try.prog.info? 45).map (·.size) = some 3 := by kernel_rfl
/-- Fields that are new. -/
def ClonF (fs : List Fld) (w : World) (e : Ending) (w' : World) : Prop := ∃ u, e = .returned u ∧ ROn fldC (NewF w w') w' u fs ∧ Below w.heap.size w w'
set_option maxRecDepth 100000 in
set_option maxHeartbeats 1000000 in
theorem fclone_any (v : Value) (fs : List Fld) (w : World) (hr : RAny fldC w v fs) (hl : fs.length ≤ 100000) : Calls Try.prog 65 #[v] w (ClonF fs w) := by
  obtain ⟨p, cap, rfl, hlc, hcm, hn⟩ := hr.shape
  have hq := fun (w : World) (a : Option Addr) (n c : Nat) => Lib.run_eql_slice_nil (P := Try.prog) w 41 83 a n c 0 0 Try.underlying41
  cases p with
  | none =>
    have h0 := hn rfl
    subst h0
    have hf : fs = [] := List.eq_nil_of_length_eq_zero (by omega)
    subst hf
    clear hr
    go_enter Try.func65, Try.ntmps65
    go_wp2_with fail
    go_ret
    exact ⟨_, rfl, ROn.nil_ _ _, Below.refl _ _⟩
  | some ad =>
    have hb0 : Below w.heap.size w (w.alloc (.cells #[] 83)) := (Below.refl _ _).alloc (Nat.le_refl _) _
    have HO0 := Lib.hid (OwnX.lit0 (C := fldC) 83 (fun _ => False) w (Nat.le_refl _))
    have HS := Lib.hid (fld_src (S' := fun _ => False) (RAny.below hr hb0))
    have HB0 := Lib.hid hb0
    clear hr hb0
    go_enter Try.func65, Try.ntmps65
    go_wp2_with (at_builtin; go_loud (refine wpList_append_x fldE rfl _ _ rfl w.heap.size _ [] rfl HO0.out (fun b _ hb => hb.elim) _ fs rfl HS.out (by unfold maxLen; simp; omega) (by simp; omega) (by simp) ?_; intro v' w4 ho4 hb4 _; rw [List.nil_append] at ho4; obtain ⟨q4, c4, rfl, _⟩ := ho4.any.shape; have HO4 := Lib.hid ho4; have HB4 := Lib.hid (HB0.out.trans hb4); clear ho4 hb4))
    go_ret
    exact ⟨_, rfl, HO4.out.ron (fun g hg => ⟨(HO4.out.cells hg).1, (HO4.out.cells hg).2.2⟩) (fun _ _ h => h.elim), HB4.out⟩

/-- A doc in new memory. -/
def CopyLeft (d : Doc) (w : World) (e : Ending) (w' : World) : Prop := ∃ u, e = .returned (.agg #[.int .i64 d.1, .int .i64 d.2.1, u]) ∧ ROn fldC (NewF w w') w' u d.2.2 ∧ Below w.heap.size w w'
set_option maxRecDepth 100000 in
set_option maxHeartbeats 2000000 in
theorem copy_any (n z : Int) (v : Value) (fs : List Fld) (w : World) (hr : RAny fldC w v fs) (hl : fs.length ≤ 100000) : Calls Try.prog 46 #[.agg #[.int .i64 n, .int .i64 z, v]] w (CopyLeft (n, (z, fs)) w) := by
  have hmx : Try.prog.follows .mixedOrders = true := by kernel_rfl
  obtain ⟨p, cap, rfl, _⟩ := hr.shape
  obtain ⟨R, hR⟩ : ∃ R, w.heap.size = R := ⟨_, rfl⟩
  obtain ⟨wa, hwa⟩ : ∃ wa, (w.alloc (.cells #[.int .i64 n, .int .i64 z, .slice p fs.length cap] 45)).alloc (.cells #[.int .i64 0, .int .i64 0, .slice none 0 0] 45) = wa := ⟨_, rfl⟩
  have hba : Below w.heap.size w wa := by rw [← hwa]; exact ((Below.refl _ _).alloc (Nat.le_refl _) _).alloc (by simp) _
  have hsa : wa.heap.size = R + 2 := by rw [← hwa, ← hR]; simp
  have X0 : Hid (Three wa R 45 (.int .i64 n) (.int .i64 z) (.slice p fs.length cap)) := Lib.hid (by rw [← hwa, ← hR]; exact (three_new w 45 _ _ _).keep (kep_alloc (fun _ => True) _ _) trivial)
  have T0 : Hid (Three wa (R + 1) 45 (.int .i64 0) (.int .i64 0) (.slice none 0 0)) := Lib.hid (by
    have := three_new (w.alloc (.cells #[.int .i64 n, .int .i64 z, .slice p fs.length cap] 45)) 45 (.int .i64 0) (.int .i64 0) (.slice none 0 0)
    rw [hwa, World.size_alloc, hR] at this
    exact this)
  have HRA := Lib.hid (RAny.below hr hba)
  have HBA := Lib.hid hba
  have HWA := Lib.hid hwa
  clear hr hba hwa
  go_enter Try.func46, Try.ntmps46
  go_wp2_with fail
  refine RS.begin_ (T := fun b => b ≠ R + 1) [(0, true), (1, true), (2, true), (3, true), (4, true), (5, true), (6, true), (7, true), (8, false), (9, true), (10, true)] hmx (by kernel_rfl) (fun _ _ d _ _ h => by cases d <;> exact h) ?_
  simp only [RS.ordered, List.map_cons, List.map_nil, List.getElem?_toArray, List.getElem?_cons_succ, List.getElem?_cons_zero]
  rw [HWA.out]
  obtain ⟨wd, hwd⟩ : ∃ wd, wa.drew = wd := ⟨_, rfl⟩
  have hbd : Below wa.heap.size wa wd := by rw [← hwd]; exact (Below.refl _ _).drew
  have hsd : wd.heap.size = R + 2 := by rw [← hwd]; exact hsa
  have xd := X0.out.below hbd X0.out.lt
  have TD := Lib.hid (T0.out.below hbd T0.out.lt)
  have G := Lib.hid (fun W (hW : Kep (fun b => b ≠ R + 1) wd W) => (xd.keep hW (by omega)).cells)
  have HC := Lib.hid (fclone_any (.slice p fs.length cap) fs wd (RAny.below HRA.out hbd) hl)
  have HBD := Lib.hid hbd
  rw [hwd]
  clear hwd hbd xd HRA T0 X0 HWA
  repeat (refine RS.take (by rfl) (by intro W hW; obtain ⟨f1, f2, f3⟩ := G.out W hW; go_simp; with_reducible rfl) ?_; simp only [Act.put, List.setIfInBounds_toArray, List.set_cons_zero, List.set_cons_succ])
  refine RS.alone (by rfl) (fun K hK => ?_)
  go_simp
  refine HC.out.mono ?_
  rintro e w4 ⟨u, rfl, hu, hb4⟩
  obtain ⟨pu, cu, rfl, _⟩ := hu.shape
  go_simp
  refine hK.out _ _ (kep_below _ hb4) ?_
  clear hK K
  repeat (refine RS.take (by rfl) (by intro W hW; go_simp; with_reducible rfl) ?_; simp only [Act.put, List.setIfInBounds_toArray, List.set_cons_zero, List.set_cons_succ])
  refine RS.done ?_
  simp only [List.length_cons, List.length_nil, List.drop_succ_cons, List.drop_zero, Nat.zero_add, Nat.reduceAdd]
  have hs4 := hb4.size
  have t4 := TD.out.below hb4 TD.out.lt
  obtain ⟨m1, m2, m3, ⟨k1, k2⟩, k3, k4⟩ := t4.all (.int .i64 n) (.int .i64 z)
  obtain ⟨n1, n2, n3⟩ := t4.cells
  have HX := Lib.hid (t4.set (.int .i64 n) (.int .i64 z) (.slice pu fs.length cu))
  have hk5 : Kep (fun b => b ≠ R + 1) w4 (set3 w4 (R + 1) (.int .i64 n) (.int .i64 z) (.slice pu fs.length cu)) := kep_set3 _ _ _
  have HQ : Hid (CopyLeft (n, (z, fs)) w (.returned (.agg #[.int .i64 n, .int .i64 z, .slice pu fs.length cu])) (set3 w4 (R + 1) (.int .i64 n) (.int .i64 z) (.slice pu fs.length cu))) := Lib.hid
    ⟨_, rfl, (newf_keep hu hk5 (fun b hb => by omega)).weak fun b _ hb => ⟨by have := hb.1; omega, hb.2⟩,
      ((HBA.out.trans (HBD.out.mono HBA.out.size)).trans (hb4.mono (by omega))).trans (hk5.below (by omega) fun k hk => by omega)⟩
  clear hu hb4 t4 hk5 HC G TD HBD HBA
  go_wp2_with fail
  refine bodyPost_ret (results_three1 (p := 2) rfl Try.underlying45 rfl infoDoc3 _ _ (R + 1) _ _ _ rfl HX.out) rfl HQ.out

set_option maxRecDepth 100000 in
theorem count_any (v : Value) (b : List UInt8) (w : World) (h : BRow w v b) (hl : b.length ≤ 10000000000) : Calls Try.prog 19 #[v] w fun e w' => e = .returned (.tuple #[.int .i64 (((decS b).getD []).length : Nat), .int .i64 (errO (decS b))]) ∧ Below w.heap.size w w' := by
  have HD := Lib.hid (dec_any v b w h hl)
  obtain ⟨p, cap, rfl, _⟩ := BIn.shape h
  clear h
  go_enter Try.func19, Try.ntmps19
  go_wp2_with fail
  refine HD.out.mono ?_
  rintro e w1 ⟨u, rfl, hu, hb⟩
  obtain ⟨pu, cu, rfl, _⟩ := hu.any.shape
  have HB := Lib.hid hb
  clear hu hb HD
  go_wp2_with fail
  go_ret2
  exact ⟨rfl, HB.out⟩
end Go.Proofs.Ythgfaadlnffpcaa.SR
set_option linter.unusedVariables false
namespace Go.Proofs.Ythgfaadlnffpcaa.SR
open Go Go.RowKit Go.Proofs.Ythgfaadlnffpcaa.MM Go.Proofs.Ythgfaadlnffpcaa.VM Go.Proofs.Ythgfaadlnffpcaa.SM
open Go.Proofs.Ythgfaadlnffpcaa.EM (Fld Ev checkE checkE_ok)
open Go.Proofs.Ythgfaadlnffpcaa.EV (fldC docC docE doc_on doc_at IsF NewF newf_keep)
open Go.Proofs.Ythgfaadlnffpcaa.ST (atS someS someS_next someB atB DocA)

/-- Docs of the call's own, and an error's number. -/
def SomeLeft (s : List Doc × Int) (w : World) (e : Ending) (w' : World) : Prop :=
  ∃ u, e = .returned (.tuple #[u, .int .i64 s.2]) ∧ DocsOwn w.heap.size w' u s.1 ∧ Below w.heap.size w w'
theorem dec_few {bs : List UInt8} {l : List Doc} (h : decS bs = some l) {k : Nat} (hk : k < l.length) : l[k].2.2.length ≤ 16 := (checkE_ok.1 (isS_at (decS_back h).1 hk).2.2).1
theorem atS_in {l : List Doc} {k : Nat} (hk : k < l.length) : atS l (k : Int) = (l[k], 0) := by unfold atS; rw [if_pos ⟨by omega, by omega⟩]; simp [List.getD, hk]
theorem atS_out {l : List Doc} {z : Int} (h : ¬ (0 ≤ z ∧ z < l.length)) : atS l z = (noDoc, 5) := by unfold atS; rw [if_neg h]

set_option maxRecDepth 100000 in
set_option maxHeartbeats 4000000 in
theorem some_any (v : Value) (bs : List UInt8) (pv : Value) (zs : List Int) (w : World) (h : BRow w v bs) (hl : bs.length ≤ 10000000000) (hz : IRow w pv zs) (hn : zs.length ≤ 1000000) :
    Calls Try.prog 22 #[v, pv] w (SomeLeft (someB (decS bs) zs) w) := by
  have HD := Lib.hid (dec_any v bs w h hl)
  obtain ⟨p, cap, rfl, _⟩ := BIn.shape h
  obtain ⟨pp, pc, rfl, hlp, hcp⟩ := hz.shape
  unfold maxLen at hcp
  have HZ := Lib.hid hz
  cases hdec : decS bs with
  | none =>
    rw [hdec] at HD
    clear h hz hdec
    go_enter Try.func22, Try.ntmps22
    go_wp2_with fail
    refine HD.out.mono ?_
    rintro e w1 ⟨u, rfl, hu, hb⟩
    rw [show errO none = 120 from rfl]
    obtain ⟨pu, cu, rfl, _⟩ := hu.any.shape
    have HB := Lib.hid hb
    clear hu hb HD
    go_wp2_with fail
    go_ret2
    exact ⟨_, rfl, DocsOwn.nil_ _ _, HB.out⟩
  | some l =>
    rw [hdec] at HD
    obtain ⟨RES, hRES⟩ : ∃ r, someS l zs [] = r := ⟨_, rfl⟩
    have H0 : Hid (someS l (zs.drop 0) [] = RES) := Lib.hid hRES
    have e0 : someB (some l) zs = RES := hRES
    rw [e0]
    have HFEW := Lib.hid (fun k (hk : k < l.length) => dec_few hdec hk)
    obtain ⟨NZ, hNZ⟩ : ∃ k, zs.length = k := ⟨_, rfl⟩
    have HNZ := Lib.hid hNZ
    rw [hNZ] at HZ hn hlp ⊢
    clear h hz hdec hRES e0 hNZ
    go_enter Try.func22, Try.ntmps22
    go_wp2_with fail
    refine HD.out.mono ?_
    rintro e w1 ⟨u, rfl, hu, hb⟩
    rw [show errO (some l) = 0 from rfl]
    have hu : DocsOwn w.heap.size w1 u l := hu
    obtain ⟨pu, cu, rfl, hlc, hcm, _⟩ := hu.any.shape
    unfold maxLen at hcm
    obtain ⟨NL, hNL⟩ : ∃ k, l.length = k := ⟨_, rfl⟩
    have HU := Lib.hid hu.any
    have HNL := Lib.hid hNL
    rw [hNL] at HU hlc ⊢
    have HB := Lib.hid hb
    have hs1 := hb.size
    have HO0 := Lib.hid (DocsOwn.nil_ w1.heap.size w1)
    have HK0 := Lib.hid (Below.refl w1.heap.size w1)
    have HZ1 := Lib.hid (IRow.below HZ.out hb)
    clear hu hb HD hNL HZ
    go_wp2_with fail
    go_loopw [8, 21] (fun dv iv wr => ∃ (i : Nat) (acc : List Doc), i ≤ NZ ∧ iv = .int .i64 i ∧ Hid (acc.length = i) ∧ Hid (someS l (zs.drop i) acc = RES) ∧ Hid (DocsOwn w1.heap.size wr dv acc) ∧ Hid (Below w1.heap.size w1 wr)) (fun _ iv _ => NZ - (intOf iv).toNat)
    case atStart => exact ⟨0, [], by omega, rfl, Lib.hid rfl, H0, HO0, HK0⟩
    case round =>
      obtain ⟨i, acc, hi, rfl, HAL, HI, HO, HK⟩ := hrel
      clear H0 HO0 HK0
      have hsw := HK.out.size
      obtain ⟨pd, cd, rfl, _⟩ := HO.out.any.shape
      by_cases hlt : i < NZ
      · have q1 : decide ((i : Int) < (NZ : Int)) = true := by rw [decide_eq_true_eq]; omega
        have q2 : decide (i < NZ) = true := decide_eq_true hlt
        have q3 : (i : Int) < (NZ : Int) := by omega
        have hiz : i < zs.length := by rw [HNZ.out]; exact hlt
        obtain ⟨bz, oz, hpo, hbl, hc⟩ := IRow.at_ (IRow.below HZ1.out HK.out) hiz
        subst hpo
        rw [show zs.getD i 0 = zs[i] by simp [List.getD, hiz]] at hc
        have hnx := HI.out
        rw [someS_next l zs hiz] at hnx
        generalize zs[i] = z at *
        have HLT := Lib.hid hlt
        by_cases hin : 0 ≤ z ∧ z < (NL : Int)
        · obtain ⟨hz0, hz1⟩ := hin
          obtain ⟨k, rfl⟩ := Int.eq_ofNat_of_zero_le hz0
          have hk : k < l.length := by rw [HNL.out]; omega
          rw [atS_in hk, if_pos rfl] at hnx
          have s1 : decide ((k : Int) < 0) = false := by rw [decide_eq_false_iff_not]; omega
          have s2 : decide ((k : Int) ≥ (NL : Int)) = false := by rw [decide_eq_false_iff_not]; omega
          have s3 : decide (NL ≤ k) = false := decide_eq_false (by omega)
          have hkn : (k : Int) < (NL : Int) := by omega
          have hfew := HFEW.out k hk
          obtain ⟨b, off, vf, rfl, hbl2, _, c1, c2, c3, hf⟩ := doc_at (RAny.below HU.out HK.out) hk
          obtain ⟨⟨sq, ⟨tm, fs⟩⟩, hd⟩ : ∃ d, l[k] = d := ⟨_, rfl⟩
          rw [hd] at c1 c2 hf hnx hfew
          dsimp only at c1 c2 hf hnx hfew
          obtain ⟨pf, cf, rfl, _⟩ := hf.shape
          have HC := Lib.hid (copy_any sq tm (.slice pf fs.length cf) fs wr hf.any (by omega))
          have HN := Lib.hid hnx
          clear hnx hd hf hk hfew HI hlt
          go_wp2_with fail
          refine HC.out.mono ?_
          rintro e w3 ⟨ue, rfl, hue, hb3⟩
          dsimp only at hue ⊢
          obtain ⟨pe, ce, rfl, _⟩ := hue.shape
          have hs3 := hb3.size
          obtain ⟨S1, hS1, ho3⟩ := HO.out.keep (kep_below (fun _ => True) hb3) (fun _ _ _ => trivial)
          obtain ⟨w4, hw4⟩ : ∃ W, w3.alloc (.cells #[.int .i64 sq, .int .i64 tm, .slice pe fs.length ce] 45) = W := ⟨_, rfl⟩
          have hb4 : Below w3.heap.size w3 w4 := by rw [← hw4]; exact (Below.refl _ _).alloc (Nat.le_refl _) _
          have ho3 := ho3.weak (T := fun b => S1 b ∨ NewF wr w3 b) fun b _ hb => .inl hb
          have HS3 : ∀ b, (S1 b ∨ NewF wr w3 b) → w1.heap.size ≤ b ∧ IsF w3 b := fun b hb => hb.elim (hS1 b) fun h => ⟨by have := h.1; omega, h.2⟩
          have hsr := src_lit (C := docC) (S := fun b => S1 b ∨ NewF wr w3 b) (w := w3) (vs := [.int .i64 sq, .int .i64 tm, .slice pe fs.length ce]) (d := (sq, ((tm, fs) : Ev))) 45 (doc_on.2 ⟨_, rfl, hue.weak fun b _ h => .inr h⟩)
          rw [hw4] at hsr
          have HS4 := Lib.hid hsr
          have HO4 := Lib.hid (ho3.keep (kep_below (fun _ => True) hb4) (fun _ _ _ => trivial) (fun _ _ => trivial))
          have HF4 : Hid (∀ b, (S1 b ∨ NewF wr w3 b) → w1.heap.size ≤ b ∧ IsF w4 b) := Lib.hid (fun b hb => ⟨(HS3 b hb).1, (HS3 b hb).2.keep (kep_below (fun _ => True) hb4) trivial⟩)
          have HK4 := Lib.hid (HK.out.trans ((grow hb3 hb4).mono hsw))
          have hs4 := hb4.size
          have HW4 := Lib.hid hw4
          clear hw4 hb4 hsr ho3 hS1 HS3 hue hb3 HO HK HC
          go_wp2_with (at_builtin; go_loud (rw [HW4.out]; refine wpList_append_x docE rfl _ _ rfl w1.heap.size (.slice pd acc.length cd) acc rfl HO4.out (fun b _ hb => isF_doc (HF4.out b hb).2) _ [(sq, ((tm, fs) : Ev))] rfl HS4.out (by unfold maxLen; have := HAL.out; simp; omega) (by have := HAL.out; simp; omega) (by omega) ?_; intro v7 w7 ho7 hb7 hk7; have hF7 : ∀ b, (S1 b ∨ NewF wr w3 b) → w1.heap.size ≤ b ∧ IsF w7 b := fun b hb => ⟨(HF4.out b hb).1, (HF4.out b hb).2.keep hk7 (isF_own HO4.out (HF4.out b hb).2)⟩; have HD7 : Hid (DocsOwn w1.heap.size w7 v7 (acc ++ [(sq, ((tm, fs) : Ev))])) := Lib.hid ⟨_, hF7, ho7⟩; have HK7 := Lib.hid (HK4.out.trans hb7); obtain ⟨p7, c7, rfl, _⟩ := ho7.any.shape; clear ho7 hb7 hk7 HO4 HS4 HK4 HF4 hF7))
          rw [show (acc ++ [(sq, ((tm, fs) : Ev))]).length = acc.length + 1 by simp] at HD7
          have hlt := HLT.out
          go_roundw
          case rel => exact ⟨i + 1, acc ++ [(sq, ((tm, fs) : Ev))], by omega, by go_num, Lib.hid (by have := HAL.out; simp; omega), HN, HD7, HK7⟩
          case measure => simp [intOf]; omega
        · rw [atS_out (by rw [HNL.out]; exact hin), if_neg (by simp)] at hnx
          dsimp only at hnx
          subst hnx
          have HB9 := Lib.hid (HB.out.trans (HK.out.mono hs1))
          by_cases h0 : z < 0
          · have s1 : decide (z < 0) = true := decide_eq_true h0
            clear HI hlt hin HO HK h0
            go_wp2_with fail
            go_ret2
            exact ⟨_, rfl, DocsOwn.nil_ _ _, HB9.out⟩
          · have s1 : decide (z < 0) = false := decide_eq_false h0
            have s2 : decide (z ≥ (NL : Int)) = true := by rw [decide_eq_true_eq]; omega
            have s3 : decide ((NL : Int) ≤ z) = true := by rw [decide_eq_true_eq]; omega
            clear HI hlt hin HO HK h0
            go_wp2_with fail
            go_ret2
            exact ⟨_, rfl, DocsOwn.nil_ _ _, HB9.out⟩
      · obtain rfl : i = NZ := by omega
        have q1 : decide ((i : Int) < (i : Int)) = false := by simp
        have q2 : decide (i < i) = false := by simp
        have hn2 := HI.out
        rw [← HNZ.out, List.drop_length, someS] at hn2
        subst hn2
        have HB9 := Lib.hid (HB.out.trans (HK.out.mono hs1))
        have HO9 := Lib.hid (HO.out.base hs1)
        clear HI hlt HO HK
        go_wp2_with fail
        go_ret2
        exact ⟨_, rfl, HO9.out, HB9.out⟩

theorem some_one (o : Option (List Doc)) (z : Int) : someB o [z] = if (atB o z).2 = 0 then ([(atB o z).1], 0) else ([], (atB o z).2) := by
  cases o with
  | none => rfl
  | some l =>
    show someS l [z] [] = _
    rw [someS]
    rfl
set_option maxRecDepth 100000 in
set_option maxHeartbeats 2000000 in
theorem at_any (v : Value) (bs : List UInt8) (i : Int) (w : World) (h : BRow w v bs) (hl : bs.length ≤ 10000000000) : Calls Try.prog 20 #[v, .int .i64 i] w (DocA (atB (decS bs) i).1 (atB (decS bs) i).2 w) := by
  obtain ⟨R, hR⟩ : ∃ R, w.heap.size = R := ⟨_, rfl⟩
  obtain ⟨wa, hwa⟩ : ∃ wa, (w.alloc (.cells #[.int .i64 0, .int .i64 0, .slice none 0 0] 45)).alloc (.cells #[.int .i64 i] 3) = wa := ⟨_, rfl⟩
  have hba : Below w.heap.size w wa := by rw [← hwa]; exact ((Below.refl _ _).alloc (Nat.le_refl _) _).alloc (by simp) _
  have T0 : Hid (Three wa R 45 (.int .i64 0) (.int .i64 0) (.slice none 0 0)) := Lib.hid (by rw [← hwa, ← hR]; exact (three_new w 45 _ _ _).keep (kep_alloc (fun _ => True) _ _) trivial)
  have hir : IRow wa (.slice (some ⟨R + 1, 0, none⟩) 1 1) [i] := by
    have := World.ownsRow_lit (e := 3) (base := 0) (size := 1) (w.alloc (.cells #[.int .i64 0, .int .i64 0, .slice none 0 0] 45)) #[.int .i64 i] 1 (Nat.zero_le _) (by unfold maxLen; omega) (by simp)
    rw [hwa, World.size_alloc, hR] at this
    have t2 : wa.ownsRow 0 3 1 (.slice (some ⟨R + 1, 0, none⟩) 1 1) 1 [.int .i64 i] := by simpa using this
    exact OwnI.irow (B := 0) (zs := [i]) t2
  have hs := some_any v bs (.slice (some ⟨R + 1, 0, none⟩) 1 1) [i] wa (BRow.below h hba) hl hir (by simp)
  rw [some_one] at hs
  have hsa : wa.heap.size = R + 2 := by rw [← hwa, ← hR]; simp
  obtain ⟨⟨⟨sq, ⟨tm, fs⟩⟩, x⟩, hat⟩ : ∃ a, atB (decS bs) i = a := ⟨_, rfl⟩
  have hno : x ≠ 0 → ((sq, ((tm, fs) : Ev)) : Doc) = noDoc := fun hx => by
    cases hd : decS bs with
    | none => rw [hd] at hat; cases hat; rfl
    | some l =>
      rw [hd] at hat
      have hat : atS l i = ((sq, (tm, fs)), x) := hat
      unfold atS at hat
      split at hat
      · simp only [Prod.mk.injEq] at hat; exact absurd hat.2.symm hx
      · exact (Prod.ext_iff.1 hat).1.symm
  rw [hat] at hs ⊢
  dsimp only at hs ⊢
  obtain ⟨p, cap, rfl, _⟩ := BIn.shape h
  have HBA := Lib.hid hba
  have HWA := Lib.hid hwa
  by_cases hx : x = 0
  · subst hx
    rw [if_pos rfl] at hs
    have HS := Lib.hid hs
    clear hs hat hno h hba hwa hir
    go_enter Try.func20, Try.ntmps20
    go_wp2_with fail
    rw [HWA.out]
    refine HS.out.mono ?_
    rintro e w1 ⟨u, rfl, hu, hb⟩
    have hu : DocsOwn wa.heap.size w1 u [(sq, (tm, fs))] := hu
    obtain ⟨pu, cu, rfl, hlc, _⟩ := hu.any.shape
    have hs1 := hb.size
    obtain ⟨b, off, vf, rfl, hbl, _, c1, c2, c3, hf⟩ := doc_at (k := 0) hu.any (by simp)
    simp only [Nat.zero_mul, Nat.add_zero, List.getElem_cons_zero] at c1 c2 c3 hf
    obtain ⟨pf, cf, rfl, _⟩ := hf.shape
    have t1 := T0.out.below hb (by omega)
    obtain ⟨m1, m2, m3, ⟨k1, k2⟩, k3, k4⟩ := t1.all (.int .i64 sq) (.int .i64 tm)
    obtain ⟨n1, n2, n3⟩ := t1.cells
    have HX := Lib.hid (t1.set (.int .i64 sq) (.int .i64 tm) (.slice pf fs.length cf))
    have hk5 : Kep (fun b => b ≠ R) w1 (set3 w1 R (.int .i64 sq) (.int .i64 tm) (.slice pf fs.length cf)) := kep_set3 _ _ _
    obtain ⟨S9, hS9, raw9, hown9, hm9⟩ := hu
    have hff : ROn fldC (fun b => b ≠ R) w1 (.slice pf fs.length cf) fs := by
      have hx9 : OwnX docC 45 wa.heap.size S9 w1 (.slice (some ⟨b, off, none⟩) [((sq, ((tm, fs) : Ev)) : Doc)].length cu) [(sq, (tm, fs))] := ⟨raw9, hown9, hm9⟩
      have hr9 := hx9.ron (T := fun b => b ≠ R) (fun g hg => by have := (hx9.cells hg).1; omega) (fun b _ hb => by have := (hS9 b hb).1; omega)
      obtain ⟨b', off', vf', hbe, _, _, c1', c2', c3', hf'⟩ := doc_at (k := 0) hr9 (by simp)
      simp only [Option.some.injEq, Addr.mk.injEq, and_true] at hbe
      obtain ⟨rfl, rfl⟩ := hbe
      simp only [Nat.zero_mul, Nat.add_zero, List.getElem_cons_zero] at c3' hf'
      rw [c3] at c3'
      obtain rfl := Option.some.inj c3'
      exact hf'
    have HQ : Hid (DocA (sq, (tm, fs)) 0 w (.returned (.tuple #[.agg #[.int .i64 sq, .int .i64 tm, .slice pf fs.length cf], .int .i64 0])) (set3 w1 R (.int .i64 sq) (.int .i64 tm) (.slice pf fs.length cf))) := Lib.hid
      ⟨_, rfl, (hff.keep hk5 fun _ _ h => h).any, (HBA.out.trans (hb.mono HBA.out.size)).trans (hk5.below (by have := HBA.out.size; omega) fun k hk => by omega)⟩
    clear hb hf hff hk5 t1 hown9 hm9 hS9 T0 HS HBA HWA
    go_wp2_with fail
    refine bodyPost_ret (results_three2 (p := 4) (u := 5) rfl Try.underlying45 rfl infoDoc3 _ _ R _ _ _ rfl HX.out) rfl HQ.out
  · rw [if_neg hx] at hs
    have t8 : (x != 0) = true := by rw [bne_iff_ne]; exact hx
    have hnd := hno hx
    unfold noDoc at hnd
    simp only [Prod.mk.injEq] at hnd
    obtain ⟨rfl, rfl, rfl⟩ := hnd
    have HS := Lib.hid hs
    clear hs hat hno h hba hwa hir hx
    go_enter Try.func20, Try.ntmps20
    go_wp2_with fail
    rw [HWA.out]
    refine HS.out.mono ?_
    rintro e w1 ⟨u, rfl, hu, hb⟩
    obtain ⟨pu, cu, rfl, hlc, _⟩ := hu.any.shape
    have hs1 := hb.size
    have t1 := T0.out.below hb (by omega)
    obtain ⟨m1, m2, m3, ⟨k1, k2⟩, k3, k4⟩ := t1.all (.int .i64 0) (.int .i64 0)
    obtain ⟨n1, n2, n3⟩ := t1.cells
    have HX := Lib.hid (t1.set (.int .i64 0) (.int .i64 0) (.slice none 0 0))
    have hk5 : Kep (fun b => b ≠ R) w1 (set3 w1 R (.int .i64 0) (.int .i64 0) (.slice none 0 0)) := kep_set3 _ _ _
    have HQ : Hid (DocA (0, (0, [])) x w (.returned (.tuple #[.agg #[.int .i64 0, .int .i64 0, .slice none 0 0], .int .i64 x])) (set3 w1 R (.int .i64 0) (.int .i64 0) (.slice none 0 0))) := Lib.hid
      ⟨_, rfl, ROn.nil_ _ _, (HBA.out.trans (hb.mono HBA.out.size)).trans (hk5.below (by have := HBA.out.size; omega) fun k hk => by omega)⟩
    clear hb hk5 t1 T0 HS HBA HWA hu
    go_wp2_with fail
    refine bodyPost_ret (results_three2 (p := 4) (u := 5) rfl Try.underlying45 rfl infoDoc3 _ _ R _ _ _ rfl HX.out) rfl HQ.out
end Go.Proofs.Ythgfaadlnffpcaa.SR
