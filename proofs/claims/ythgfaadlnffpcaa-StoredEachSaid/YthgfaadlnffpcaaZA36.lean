/-
  The code's reader (package stored): what it takes, piece by piece. Conditions: what bounds ask of a number lies within whole numbers; fewer than 10^12 bytes. The law StoredForms: which rows may be, and which are the same. No condition but the code's contracts. The law StoredBytes: a row's bytes, the row of any bytes, how many docs it has. No condition but the code's contracts; times that an int holds.
-/
import Derived.Test.YthgfaadlnffpcaaZA27
import Derived.Test.YthgfaadlnffpcaaZA33
import Derived.Test.YthgfaadlnffpcaaZA2
import Derived.Test.YthgfaadlnffpcaaZA35
import Derived.Test.YthgfaadlnffpcaaZA21
set_option linter.unusedVariables false
namespace Go.Proofs.Ythgfaadlnffpcaa.SR
open Go Go.RowKit Go.Proofs.Ythgfaadlnffpcaa.MM Go.Proofs.Ythgfaadlnffpcaa.VM
open Go.Proofs.Ythgfaadlnffpcaa.EM (Fld Ev)
open Go.Proofs.Ythgfaadlnffpcaa.EV (fldC getR cgetF_any infoEv2 NewF IsF newf_keep)

/-! ### plain -/
/-- A number taken: what it is, what is left, whether one piece may not be there. -/
def numSt (m : Nat) (l : List UInt8) (o : Bool) : Nat × List UInt8 × Bool := if (getL l).2.2 = 0 ∧ (getL l).1 ≤ m then ((getL l).1, VG.restL l, o) else (0, [], true)
def evS (l : List UInt8) (o : Bool) : Ev × List UInt8 × Bool := ((getR l).1, (getR l).2.1, o || (getR l).2.2 != 0)

/-! ### the object -/
/-- A reader: what is left (it lies in blocks of S), whether a piece may not be there. -/
def Rd (S : Nat → Prop) (w : World) (g : Nat) (l : List UInt8) (o : Bool) : Prop := ∃ v, w.heap[g]? = some (.cells #[v, .bool o] 93 (0, 0)) ∧ BOn S w v l
theorem Rd.lt {S : Nat → Prop} {w : World} {g : Nat} {l : List UInt8} {o : Bool} (h : Rd S w g l o) : g < w.heap.size := by obtain ⟨v, h, _⟩ := h; exact (Array.getElem?_eq_some_iff.1 h).1
theorem Rd.keep {S T : Nat → Prop} {w w' : World} {g : Nat} {l : List UInt8} {o : Bool} (h : Rd S w g l o) (hk : Kep T w w') (hg : T g) (hS : ∀ b, b < w.heap.size → S b → T b) : Rd S w' g l o := by
  have hl := h.lt
  obtain ⟨v, h, hv⟩ := h
  exact ⟨v, (hk.block g hl hg).trans h, hv.keep (hk.mono' fun k hk hs => hS k hk hs) fun _ _ h => h⟩
theorem Rd.below {S : Nat → Prop} {w w' : World} {g : Nat} {l : List UInt8} {o : Bool} (h : Rd S w g l o) (hb : Below w.heap.size w w') : Rd S w' g l o := h.keep (kep_below (fun _ => True) hb) trivial fun _ _ _ => trivial
theorem Rd.weak {S T : Nat → Prop} {w : World} {g : Nat} {l : List UInt8} {o : Bool} (h : Rd S w g l o) (hT : ∀ b, b < w.heap.size → S b → T b) : Rd T w g l o := by
  obtain ⟨v, h, hv⟩ := h
  exact ⟨v, h, hv.weak hT⟩
theorem rd_set0 {S S' : Nat → Prop} {w : World} {g : Nat} {l m : List UInt8} {o : Bool} {v : Value} (h : Rd S w g l o) (hg : ¬ S' g) (hv : BOn S' w v m) : Rd S' (w.setCell ⟨g, 0, none⟩ v) g m o := by
  obtain ⟨v0, h, _⟩ := h
  exact ⟨v, heap_setCell_same w g 0 _ _ v h, hv.keep (kep_set hg v) fun _ _ h => h⟩
theorem rd_set1 {S S' : Nat → Prop} {w : World} {g : Nat} {l m : List UInt8} {o : Bool} {v : Value} (h : Rd S w g l o) (hg : ¬ S' g) (hv : BOn S' w v m) : Rd S' ((w.setCell ⟨g, 0, none⟩ v).setCell ⟨g, 1, none⟩ (.bool true)) g m true := by
  obtain ⟨v0, h, _⟩ := h
  exact ⟨v, heap_setCell_same _ g 1 _ _ (.bool true) (heap_setCell_same w g 0 _ _ v h), (hv.keep (kep_set hg v) fun _ _ h => h).keep (kep_set hg (.bool true)) fun _ _ h => h⟩
/-- What a piece leaves. -/
def Took (S : Nat → Prop) (g : Nat) (x : Value) (l : List UInt8) (o : Bool) (w : World) (e : Ending) (w' : World) : Prop := e = .returned x ∧ Rd S w' g l o ∧ Kep (fun b => b ≠ g) w w'
/-- A block of bytes. -/
def IsU (w : World) (b : Nat) : Prop := ∃ cur fr, w.heap[b]? = some (.cells cur 5 fr)
theorem IsU.keep {T : Nat → Prop} {w w' : World} {b : Nat} (h : IsU w b) (hk : Kep T w w') (hb : T b) : IsU w' b := by
  obtain ⟨cur, fr, h⟩ := h
  exact ⟨cur, fr, (hk.block b (Array.getElem?_eq_some_iff.1 h).1 hb).trans h⟩
theorem IsU.lt {w : World} {b : Nat} (h : IsU w b) : b < w.heap.size := by obtain ⟨_, _, h⟩ := h; exact (Array.getElem?_eq_some_iff.1 h).1
/-- What an event leaves: its fields lie in new blocks, and what is left too. -/
def EvTook (g : Nat) (s : Ev × List UInt8 × Bool) (w : World) (e : Ending) (w' : World) : Prop :=
  ∃ u, e = .returned (.agg #[.int .i64 s.1.1, u]) ∧ ROn fldC (NewF w w') w' u s.1.2 ∧ Rd (fun b => w.heap.size ≤ b ∧ IsU w' b) w' g s.2.1 s.2.2 ∧ Kep (fun b => b ≠ g) w w'

set_option maxRecDepth 100000 in
set_option maxHeartbeats 1000000 in
theorem goon_any (S S' : Nat → Prop) (g : Nat) (l m : List UInt8) (o : Bool) (v : Value) (er : Int) (w : World) (h : Rd S w g l o) (hg : ¬ S' g) (hv : BOn S' w v m) :
    Calls Try.prog 73 #[.pointer (some ⟨g, 0, none⟩), v, .int .i64 er] w (Took S' g (.tuple #[]) m (o || er != 0) w) := by
  have HR := Lib.hid h
  obtain ⟨v0, hc, _⟩ := h
  have HV := Lib.hid hv
  have f0 := cell_of_row w g 0 _ _ _ hc
  have f1 := cell_of_row w g 1 _ _ _ hc
  have f2 := frozen_of_row w g 0 _ _ hc
  have f3 := frozen_of_row w g 1 _ _ hc
  obtain ⟨p1, c1, rfl, _⟩ := hv.shape
  by_cases h0 : er = 0
  · subst h0
    have t1 : (o || ((0 : Int) != 0)) = o := by simp
    rw [t1]
    have HQ := Lib.hid (show Took S' g (.tuple #[]) m o w (.returned (.tuple #[])) (w.setCell ⟨g, 0, none⟩ (.slice p1 m.length c1)) from ⟨rfl, rd_set0 HR.out hg HV.out, kep_set (by simp) _⟩)
    clear hv HV HR hc
    go_enter Try.func73, Try.ntmps73
    go_wp2_with fail
    refine bodyPost_end (results_none rfl _ _ _) rfl ?_
    exact HQ.out
  · have t0 : (er != 0) = true := by rw [bne_iff_ne]; exact h0
    have t1 : (o || (er != 0)) = true := by rw [t0]; simp
    rw [t1]
    have HQ := Lib.hid (show Took S' g (.tuple #[]) m true w (.returned (.tuple #[])) ((w.setCell ⟨g, 0, none⟩ (.slice p1 m.length c1)).setCell ⟨g, 1, none⟩ (.bool true)) from ⟨rfl, rd_set1 HR.out hg HV.out, (kep_set (by simp) _).trans (kep_set (by simp) _)⟩)
    clear hv HV HR hc
    go_enter Try.func73, Try.ntmps73
    go_wp2_with fail
    refine bodyPost_end (results_none rfl _ _ _) rfl ?_
    exact HQ.out

set_option maxRecDepth 100000 in
set_option maxHeartbeats 1000000 in
theorem number_any (S : Nat → Prop) (g : Nat) (m : Nat) (l : List UInt8) (o : Bool) (w : World) (hm : m ≤ 1099511627776) (h : Rd S w g l o) (hg : ¬ S g) :
    Calls Try.prog 72 #[.pointer (some ⟨g, 0, none⟩), .int .i64 m] w (Took S g (.int .i64 (numSt m l o).1) (numSt m l o).2.1 (numSt m l o).2.2 w) := by
  have HR := Lib.hid h
  obtain ⟨v, hc, hv⟩ := h
  have f0 : w.cell? ⟨g, 0, none⟩ = some v := by rw [cell_of_row w g 0 _ _ _ hc]; rfl
  have HG := Lib.hid (VG.get_on S v l w hv)
  have HGO := Lib.hid (fun m v er w1 (h1 : Rd S w1 g l o) (h2 : BOn S w1 v m) => goon_any S S g l m o v er w1 h1 hg h2)
  have hb := getL_bounds l
  have herr : (getL l).2.2 ≠ 0 → (getL l).1 = 0 ∧ VG.restL l = [] := fun he => by
    refine ⟨?_, by unfold VG.restL; rw [if_neg he]⟩
    rcases hb.2.2.1 with e | e | e
    · exact absurd e he
    · rw [e]
    · rw [e]
  have hn := hb.1
  unfold numSt
  generalize (getL l).1 = n at *
  generalize (getL l).2.2 = er at *
  generalize VG.restL l = R at *
  clear hv hc hb
  by_cases hmn : n ≤ m
  · have hst : (if er = 0 ∧ n ≤ m then (n, R, o) else (0, [], true)) = (n, R, o || er != 0) := by
      by_cases h0 : er = 0
      · subst h0
        rw [if_pos ⟨rfl, hmn⟩]; simp
      · rw [if_neg (fun h => h0 h.1), (herr h0).1, (herr h0).2]
        have : (er != 0) = true := by rw [bne_iff_ne]; exact h0
        rw [this]; simp
    rw [hst]
    have t1 : decide ((n : Int) > (m : Int)) = false := decide_eq_false (by omega)
    have t2 : IntKind.u64.wrap (m : Int) = (m : Int) := by rw [IntKind.wrap_u64]; omega
    have t3 : IntKind.i64.wrap (n : Int) = (n : Int) := by rw [IntKind.wrap_i64]; omega
    dsimp only
    clear hst herr
    go_enter Try.func72, Try.ntmps72
    go_wp2_with fail
    refine HG.out.mono ?_
    rintro e w1 ⟨v1, rfl, hv1, hb1⟩
    have hr1 := HR.out.below hb1
    have HQ := Lib.hid (HGO.out R v1 er w1 hr1 hv1)
    have HB1 := Lib.hid hb1
    clear hv1 hb1 hr1 HG HGO
    go_wp2_with fail
    refine HQ.out.mono ?_
    rintro e w2 ⟨rfl, h2, k2⟩
    have H2 := Lib.hid h2
    have K2 := Lib.hid k2
    clear h2 k2 HQ
    go_wp2_with fail
    go_ret
    exact ⟨rfl, H2.out, (kep_below _ HB1.out).trans K2.out⟩
  · have hst : (if er = 0 ∧ n ≤ m then (n, R, o) else (0, [], true)) = (0, [], true) := by rw [if_neg (fun h => hmn h.2)]
    rw [hst]
    have t1 : decide ((n : Int) > (m : Int)) = true := decide_eq_true (by omega)
    have t2 : IntKind.u64.wrap (m : Int) = (m : Int) := by rw [IntKind.wrap_u64]; omega
    dsimp only
    clear hst herr
    go_enter Try.func72, Try.ntmps72
    go_wp2_with fail
    refine HG.out.mono ?_
    rintro e w1 ⟨v1, rfl, hv1, hb1⟩
    have hr1 := HR.out.below hb1
    have HQ := Lib.hid (HGO.out [] (.slice none 0 0) 120 w1 hr1 (BOn.nil_ _ _))
    have HB1 := Lib.hid hb1
    clear hv1 hb1 hr1 HG HGO
    go_wp2_with fail
    refine HQ.out.mono ?_
    rintro e w2 ⟨rfl, h2, k2⟩
    have h2' : Rd S w2 g [] true := by have := h2; simpa using this
    have H2 := Lib.hid h2'
    have K2 := Lib.hid k2
    clear h2 h2' k2 HQ
    go_wp2_with fail
    go_ret
    exact ⟨rfl, H2.out, (kep_below _ HB1.out).trans K2.out⟩

set_option maxRecDepth 100000 in
set_option maxHeartbeats 2000000 in
theorem event_any (S : Nat → Prop) (g : Nat) (l : List UInt8) (o : Bool) (w : World) (hl : l.length ≤ 1000000000000) (h : Rd S w g l o) :
    Calls Try.prog 74 #[.pointer (some ⟨g, 0, none⟩)] w (EvTook g (evS l o) w) := by
  obtain ⟨R, hR⟩ : ∃ R, w.heap.size = R := ⟨_, rfl⟩
  have hgR : g < R := by rw [← hR]; exact h.lt
  obtain ⟨wa, hwa⟩ : ∃ wa, w.alloc (.cells #[.int .i64 0, .slice none 0 0] 43) = wa := ⟨_, rfl⟩
  have hba : Below w.heap.size w wa := by rw [← hwa]; exact (Below.refl _ _).alloc (Nat.le_refl _) _
  have T0 : Hid (Two wa R 43 (.int .i64 0) (.slice none 0 0)) := Lib.hid (by rw [← hwa, ← hR]; exact two_new w 43 _ _)
  have hsa : wa.heap.size = R + 1 := by rw [← hwa, ← hR]; simp
  have hra := h.below hba
  have HRA := Lib.hid hra
  obtain ⟨v, hc, hv⟩ := hra
  have f0 : wa.cell? ⟨g, 0, none⟩ = some v := by rw [cell_of_row wa g 0 _ _ _ hc]; rfl
  have HG := Lib.hid (cgetF_any v l wa hv.brow hl)
  obtain ⟨z, fs, rest, er, hgr⟩ : ∃ z fs rest er, getR l = ((z, fs), rest, er) := ⟨_, _, _, _, rfl⟩
  unfold evS
  rw [hgr] at HG ⊢
  dsimp only
  have HWA := Lib.hid hwa
  have HBA := Lib.hid hba
  rw [← hwa] at f0
  obtain ⟨pv, cv, rfl, _⟩ := hv.shape
  clear hv hc h hwa hba hgr
  go_enter Try.func74, Try.ntmps74
  go_wp2_with fail
  rw [HWA.out]
  refine HG.out.mono ?_
  rintro e w1 ⟨u, v1, rfl, hu, hv1, hb1⟩
  dsimp only at hu hv1 ⊢
  obtain ⟨pu, cu, rfl, _⟩ := hu.shape
  obtain ⟨p1, c1, rfl, _⟩ := (OwnB.brow hv1).shape
  have hs1 := hb1.size
  obtain ⟨q, hq⟩ : ∃ q, w1.heap.size = q := ⟨_, rfl⟩
  obtain ⟨w2, hw2⟩ : ∃ W, w1.alloc (.cells #[.int .i64 z, .slice pu fs.length cu] 43) = W := ⟨_, rfl⟩
  have hb2 : Below w1.heap.size w1 w2 := by rw [← hw2]; exact (Below.refl _ _).alloc (Nat.le_refl _) _
  have hs2 := hb2.size
  have hb02 : Below wa.heap.size wa w2 := grow hb1 hb2
  have X2 : Hid (Two w2 q 43 (.int .i64 z) (.slice pu fs.length cu)) := Lib.hid (by rw [← hw2, ← hq]; exact two_new w1 43 _ _)
  have T2 := Lib.hid (T0.out.below hb02 (by omega))
  have hv2 : BOn (fun b => R + 1 ≤ b ∧ IsU w2 b) w2 (.slice p1 rest.length c1) rest := (BOn.of_own (OwnB.keep hv1 hb2)).weak fun b _ hb => by
    have h1 := (World.ownsRow.lt hv1 b hb).1
    exact ⟨by omega, (own_cells (OwnB.keep hv1 hb2) hb).2⟩
  have HQ := Lib.hid (goon_any S (fun b => R + 1 ≤ b ∧ IsU w2 b) g l rest o _ er w2 (HRA.out.below hb02) (fun h => by have := h.1; omega) hv2)
  have HU2 := Lib.hid (newf_keep hu (kep_below (fun _ => True) hb2) fun _ _ => trivial)
  have HB2 := Lib.hid hb02
  have HW2 := Lib.hid hw2
  clear hu hv1 hb1 hb2 hv2 hb02 hw2 HG HRA
  go_wp2_with fail
  rw [HW2.out]
  refine HQ.out.mono ?_
  rintro e w3 ⟨rfl, hr3, hk3⟩
  have hs3 := hk3.size
  have hgq : g ≠ q := by omega
  have X3 := X2.out.keep hk3 (fun e => hgq e.symm)
  have t3 := T2.out.keep hk3 (by omega)
  obtain ⟨x0, x1⟩ := And.intro X3.c0 X3.c1
  obtain ⟨a0, a1, a2, a3, a4, a5⟩ := t3.all (.int .i64 z)
  have HX := Lib.hid (t3.s01 (.int .i64 z) (.slice pu fs.length cu))
  have hk4 : Kep (fun b => b ≠ R) w3 ((w3.setCell ⟨R, 0, none⟩ (.int .i64 z)).setCell ⟨R, 1, none⟩ (.slice pu fs.length cu)) := kep_set01 _ _
  have h02 : Kep (fun b => b ≠ g) w w2 := (kep_below _ HBA.out).trans (kep_below _ HB2.out)
  have HFIN : Hid (EvTook g ((z, fs), rest, o || er != 0) w (.returned (.agg #[.int .i64 z, .slice pu fs.length cu])) ((w3.setCell ⟨R, 0, none⟩ (.int .i64 z)).setCell ⟨R, 1, none⟩ (.slice pu fs.length cu))) := Lib.hid (by
    have hu3 := newf_keep HU2.out hk3 (fun b hb => by omega)
    have hu4 := newf_keep hu3 hk4 (fun b hb => by omega)
    refine ⟨_, rfl, hu4.weak fun b _ hb => ⟨by have := hb.1; omega, hb.2⟩, ?_, (h02.trans hk3).andThen hk4 fun i hi _ => by omega⟩
    exact (hr3.keep hk4 (by omega) (fun b _ hb => by have := hb.1; omega)).weak fun b _ hb => ⟨by have := hb.1; omega, (hb.2.keep hk3 (by have := hb.1; omega)).keep hk4 (by have := hb.1; omega)⟩)
  clear X3 t3 hk3 hk4 hr3 h02 HU2 X2 T2 HQ
  go_wp2_with fail
  refine bodyPost_ret (results_box1 (p := 2) rfl Try.underlying43 rfl infoEv2 _ _ R _ _ rfl HX.out) rfl HFIN.out
end Go.Proofs.Ythgfaadlnffpcaa.SR
set_option linter.unusedVariables false
namespace Go.Proofs.Ythgfaadlnffpcaa.ST
open Go Go.RowKit Go.Proofs.Ythgfaadlnffpcaa.MM Go.Proofs.Ythgfaadlnffpcaa.EM Go.Proofs.Ythgfaadlnffpcaa.SM
open Go.Proofs.Ythgfaadlnffpcaa.EV (docC evC fldC doc_at doc_on docE BoolLeft IntLeft samedocs_any)

/-- What a law of this layer leaves. -/
def Held (w : World) (e : Ending) (w' : World) : Prop := e = .returned (.bool true) ∧ Below w.heap.size w w'
theorem below2 {w w1 w2 : World} (h : Below w.heap.size w w1) (k : Below w1.heap.size w1 w2) : Below w.heap.size w w2 := h.trans (k.mono h.size)

set_option maxRecDepth 100000 in
set_option maxHeartbeats 4000000 in
theorem forms_call (O : Owes) (u v : Value) (l m : List Doc) (w : World) (hu : RAny docC w u l) (hv : RAny docC w v m) : Calls Try.prog 3 #[u, v] w (Held w) := by
  have HF1 := Lib.hid (few_any w.heap.size u l w hu.bel (Nat.le_refl _))
  have HV := Lib.hid hv
  have HO := Lib.hid O
  obtain ⟨pu, cu, rfl, _⟩ := hu.shape
  obtain ⟨pv, cv, rfl, _⟩ := hv.shape
  clear hu hv
  go_enter Try.func3, Try.ntmps3
  go_wp2_with fail
  refine HF1.out.mono ?_
  rintro e w1 ⟨u1, b1, rfl, ho1, hb1⟩
  have HU1 := Lib.hid ho1.any
  generalize (if b1 = true then l.take 40 else []) = L1 at HU1
  have HB1 := Lib.hid hb1
  have HF2 := Lib.hid (few_any w1.heap.size _ m w1 (RAny.bel (HV.out.below hb1)) (Nat.le_refl _))
  clear ho1 hb1 HF1 HV
  go_wp2_with fail
  refine HF2.out.mono ?_
  rintro e w2 ⟨u2, b2, rfl, ho2, hb2⟩
  have HU2 := Lib.hid ho2.any
  generalize (if b2 = true then m.take 40 else []) = L2 at HU2
  have HV2 := Lib.hid (HU1.out.below hb2)
  have HB2 := Lib.hid (below2 HB1.out hb2)
  have HAW := Lib.hid (fun W => awake_any HO.out W)
  clear ho2 hb2 HF2 HU1 HB1
  by_cases hb : b1 = true ∧ b2 = true
  · obtain ⟨rfl, rfl⟩ := hb
    obtain ⟨p1, c1, hp1, _⟩ := HV2.out.shape
    obtain ⟨p2, c2, hp2, _⟩ := HU2.out.shape
    subst hp1 hp2
    have HK := Lib.hid (HO.out.check _ L1 w2 HV2.out)
    have HR := Lib.hid (fun W h => rcheck_any (.slice p1 L1.length c1) L1 W h)
    have HS := Lib.hid (fun W h k => HO.out.same (.slice p1 L1.length c1) (.slice p2 L2.length c2) L1 L2 W h k)
    have HRS := Lib.hid (fun W h k => samedocs_any (.slice p1 L1.length c1) (.slice p2 L2.length c2) L1 L2 W h k)
    have hself := fun W h k => HO.out.same (.slice p1 L1.length c1) (.slice p1 L1.length c1) L1 L1 W h k
    rw [decide_eq_true rfl] at hself
    have HSS := Lib.hid hself
    clear hself
    obtain ⟨d, hd⟩ : ∃ d, decide (L1 = L2) = d := ⟨_, rfl⟩
    rw [hd] at HS HRS
    obtain ⟨c, hc⟩ : ∃ c : Int, (if isS L1 = true then 0 else 120) = c := ⟨_, rfl⟩
    rw [hc] at HK HR
    have hcc : (c == c) = true := by simp
    have hdd : (d == d) = true := by simp
    clear hd hc
    go_wp2_with fail
    refine HK.out.mono ?_
    rintro e w3 ⟨rfl, hb3⟩
    have HB3 := Lib.hid (below2 HB2.out hb3)
    have HV3 := Lib.hid (HV2.out.below hb3)
    have HU3 := Lib.hid (HU2.out.below hb3)
    clear hb3 HK HB2 HV2 HU2
    go_wp2_with fail
    refine (HR.out w3 HV3.out).mono ?_
    rintro e w4 ⟨rfl, hb4⟩
    have HB4 := Lib.hid (below2 HB3.out hb4)
    have HV4 := Lib.hid (HV3.out.below hb4)
    have HU4 := Lib.hid (HU3.out.below hb4)
    clear hb4 HR HB3 HV3 HU3
    go_wp2_with fail
    refine (HS.out w4 HV4.out HU4.out).mono ?_
    rintro e w5 ⟨rfl, hb5⟩
    have HB5 := Lib.hid (below2 HB4.out hb5)
    have HV5 := Lib.hid (HV4.out.below hb5)
    have HU5 := Lib.hid (HU4.out.below hb5)
    clear hb5 HS HB4 HV4 HU4
    go_wp2_with fail
    refine (HRS.out w5 HV5.out HU5.out).mono ?_
    rintro e w6 ⟨rfl, hb6⟩
    have HB6 := Lib.hid (below2 HB5.out hb6)
    have HV6 := Lib.hid (HV5.out.below hb6)
    clear hb6 HRS HB5 HV5 HU5
    go_wp2_with fail
    refine (HSS.out w6 HV6.out HV6.out).mono ?_
    rintro e w7 ⟨rfl, hb7⟩
    have HB7 := Lib.hid (below2 HB6.out hb7)
    clear hb7 HSS HB6 HV6
    go_wp2_with fail
    refine (HAW.out w7).mono ?_
    rintro e w8 ⟨rfl, hb8⟩
    have HB8 := Lib.hid (below2 HB7.out hb8)
    clear hb8 HAW HB7
    go_wp2_with fail
    go_ret
    exact ⟨rfl, HB8.out⟩
  · have hbb : (b1 = false) ∨ (b1 = true ∧ b2 = false) := by
      cases b1 <;> cases b2 <;> simp_all
    have HBB := Lib.hid hbb
    obtain ⟨p1, c1, hp1, _⟩ := HV2.out.shape
    obtain ⟨p2, c2, hp2, _⟩ := HU2.out.shape
    subst hp1 hp2
    clear hb hbb HU2 HV2
    rcases HBB.out with rfl | ⟨rfl, rfl⟩
    all_goals
      clear HBB
      go_wp2_with fail
      refine (HAW.out w2).mono ?_
      rintro e w8 ⟨rfl, hb8⟩
      have HB8 := Lib.hid (below2 HB2.out hb8)
      clear hb8 HAW HB2
      go_wp2_with fail
      go_ret
      exact ⟨rfl, HB8.out⟩
end Go.Proofs.Ythgfaadlnffpcaa.ST
set_option linter.unusedVariables false
namespace Go.Proofs.Ythgfaadlnffpcaa.ST
open Go Go.RowKit Go.Proofs.Ythgfaadlnffpcaa.MM Go.Proofs.Ythgfaadlnffpcaa.EM Go.Proofs.Ythgfaadlnffpcaa.SM
open Go.Proofs.Ythgfaadlnffpcaa.EV (docC evC fldC doc_at doc_on docE BoolLeft IntLeft samedocs_any)

theorem few_fit {l : List Doc} (h : FitS l) (b : Bool) : FitS (if b then l.take 40 else []) := by
  cases b with
  | true => exact fun d hd => h d (List.mem_of_mem_take hd)
  | false => exact fun d hd => by simp at hd

set_option maxRecDepth 100000 in
set_option maxHeartbeats 4000000 in
theorem bytes_call (O : Owes) (u v : Value) (l : List Doc) (bs : List UInt8) (w : World) (hu : RAny docC w u l) (hv : BRow w v bs) (hf : FitS l) : Calls Try.prog 4 #[u, v] w (Held w) := by
  have HF1 := Lib.hid (few_any w.heap.size u l w hu.bel (Nat.le_refl _))
  have HV := Lib.hid hv
  have HO := Lib.hid O
  have HFF := Lib.hid (few_fit hf)
  obtain ⟨pu, cu, rfl, _⟩ := hu.shape
  obtain ⟨pv, cv, rfl, _⟩ := hv.shape
  clear hu hv hf
  go_enter Try.func4, Try.ntmps4
  go_wp2_with fail
  refine HF1.out.mono ?_
  rintro e w1 ⟨u1, b1, rfl, ho1, hb1⟩
  have HU1 := Lib.hid ho1.any
  have HFT := Lib.hid (HFF.out b1)
  generalize (if b1 = true then l.take 40 else []) = L1 at HU1 HFT
  have HB1 := Lib.hid hb1
  have HV1 := Lib.hid (show BIn w1.heap.size w1 _ bs from BIn.mono (BIn.below HV.out hb1) hb1.size)
  have HAW := Lib.hid (fun W => awake_any HO.out W)
  clear ho1 hb1 HF1 HV HFF
  cases b1 with
  | true =>
    have HC := Lib.hid (lcut_any w1.heap.size _ bs w1 HV1.out)
    clear HV1
    go_wp2_with fail
    refine HC.out.mono ?_
    rintro e w1' ⟨v2, rfl, hv2, rfl⟩
    have HV2 := Lib.hid hv2
    have HB9 : Hid ((bs.take 900).length ≤ 900) := Lib.hid (by rw [List.length_take]; omega)
    generalize bs.take 900 = B2 at HV2 HB9
    have HE1 := Lib.hid (HO.out.enc _ L1 w1 HU1.out HFT.out)
    have HE2 := Lib.hid (fun W h => renc_a u1 L1 W h HFT.out)
    obtain ⟨E, hE⟩ : ∃ E : List UInt8, (if isS L1 = true then encS L1 else []) = E := ⟨_, rfl⟩
    obtain ⟨c, hc⟩ : ∃ c : Int, (if isS L1 = true then 0 else 120) = c := ⟨_, rfl⟩
    rw [hE, hc] at HE1 HE2
    have hcc : (c == c) = true := by simp
    clear hE hc hv2 HC
    go_wp2_with fail
    refine HE1.out.mono ?_
    rintro e w2 ⟨x, rfl, hx, hb2⟩
    have HX := Lib.hid hx
    have HU2 := Lib.hid (HU1.out.below hb2)
    have HV3 := Lib.hid (show BIn w2.heap.size w2 v2 B2 from BIn.mono (BIn.below HV2.out hb2) hb2.size)
    have HB2 := Lib.hid (below2 HB1.out hb2)
    clear hx hb2 HE1 HU1 HV2 HB1
    go_wp2_with fail
    refine (HE2.out w2 HU2.out).mono ?_
    rintro e w3 ⟨y, rfl, hy, hb3⟩
    have HY := Lib.hid hy
    have HX3 := Lib.hid (show BIn w3.heap.size w3 x E from BIn.mono (BIn.below HX.out hb3) hb3.size)
    have HV4 := Lib.hid (show BIn w3.heap.size w3 v2 B2 from BIn.mono (BIn.below HV3.out hb3) hb3.size)
    have HB3 := Lib.hid (below2 HB2.out hb3)
    have HD1 := Lib.hid (HO.out.dec v2 B2 w3 HV4.out (by have := HB9.out; omega))
    have HD2 := Lib.hid (fun W h => rdec_a v2 B2 W h)
    have HN := Lib.hid (fun W h => HO.out.count v2 B2 W h (by have := HB9.out; omega))
    obtain ⟨D, hD⟩ : ∃ D, (decS B2).getD [] = D := ⟨_, rfl⟩
    obtain ⟨d, hd⟩ : ∃ d, errD (decS B2) = d := ⟨_, rfl⟩
    rw [hD, hd] at HD1 HD2 HN
    have hdd : (d == d) = true := by simp
    clear hD hd hy hb3 HE2 HU2 HV3 HB2 HX
    go_wp2_with fail
    refine HD1.out.mono ?_
    rintro e w4 ⟨ud, rfl, hud, hb4⟩
    have HUD := Lib.hid hud
    have HX4 := Lib.hid (show BIn w4.heap.size w4 x E from BIn.mono (BIn.below HX3.out hb4) hb4.size)
    have HY4 := Lib.hid (show BIn w4.heap.size w4 y E from BIn.mono (BIn.below HY.out hb4) hb4.size)
    have HV5 := Lib.hid (show BIn w4.heap.size w4 v2 B2 from BIn.mono (BIn.below HV4.out hb4) hb4.size)
    have HB4 := Lib.hid (below2 HB3.out hb4)
    clear hud hb4 HD1 HX3 HY HV4 HB3
    go_wp2_with fail
    refine (HD2.out w4 HV5.out).mono ?_
    rintro e w5 ⟨vd, rfl, hvd, hb5⟩
    have HVD := Lib.hid hvd
    have HUD5 := Lib.hid (HUD.out.below hb5)
    have HX5 := Lib.hid (show BIn w5.heap.size w5 x E from BIn.mono (BIn.below HX4.out hb5) hb5.size)
    have HY5 := Lib.hid (show BIn w5.heap.size w5 y E from BIn.mono (BIn.below HY4.out hb5) hb5.size)
    have HV6 := Lib.hid (show BIn w5.heap.size w5 v2 B2 from BIn.mono (BIn.below HV5.out hb5) hb5.size)
    have HB5 := Lib.hid (below2 HB4.out hb5)
    clear hvd hb5 HD2 HX4 HY4 HV5 HB4 HUD
    go_wp2_with fail
    refine (HN.out w5 HV6.out).mono ?_
    rintro e w6 ⟨rfl, hb6⟩
    have HVD6 := Lib.hid (HVD.out.below hb6)
    have HUD6 := Lib.hid (HUD5.out.below hb6)
    have k1 := BIn.conv (show BIn w6.heap.size w6 x E from BIn.mono (BIn.below HX5.out hb6) hb6.size)
    have k2 := BIn.conv (show BIn w6.heap.size w6 y E from BIn.mono (BIn.below HY5.out hb6) hb6.size)
    have hsl := same_list E E
    rw [decide_eq_true rfl] at hsl
    have q1 : (E == E) = true := by simp
    have q2 : ((D.length : Int) == (D.length : Int)) = true := by simp
    have HB6 := Lib.hid (below2 HB5.out hb6)
    obtain ⟨p1, c1, hp1, _⟩ := HUD6.out.shape
    obtain ⟨p2, c2, hp2, _⟩ := HVD6.out.shape
    subst hp1 hp2
    have hsm := samedocs_any _ _ D D w6 HUD6.out HVD6.out
    rw [decide_eq_true rfl] at hsm
    have HSM := Lib.hid hsm
    obtain ⟨px, cx, rfl, _⟩ := HX5.out.shape
    obtain ⟨py, cy, rfl, _⟩ := HY5.out.shape
    clear hb6 HN HX5 HY5 HV6 HB5 HUD5 HVD HUD6 HVD6 hsm
    go_wp2_with fail
    refine HSM.out.mono ?_
    rintro e w7 ⟨rfl, hb7⟩
    have HB7 := Lib.hid (below2 HB6.out hb7)
    clear hb7 HSM HB6
    go_wp2_with fail
    refine (HAW.out w7).mono ?_
    rintro e w8 ⟨rfl, hb8⟩
    have HB8 := Lib.hid (below2 HB7.out hb8)
    clear hb8 HAW HB7
    go_wp2_with fail
    go_ret
    exact ⟨rfl, HB8.out⟩
  | false =>
    clear HU1 HV1
    go_wp2_with fail
    refine (HAW.out w1).mono ?_
    rintro e w8 ⟨rfl, hb8⟩
    have HB8 := Lib.hid (below2 HB1.out hb8)
    clear hb8 HAW HB1
    go_wp2_with fail
    go_ret
    exact ⟨rfl, HB8.out⟩
end Go.Proofs.Ythgfaadlnffpcaa.ST
