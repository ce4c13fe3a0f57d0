/-
  From the rows' readings to what the walks ask: slices of bytes and of whole numbers that came in. No condition. Arguments that are events, batches: read as data, they lie as the codecs say. No condition. A batch as an argument: read as data, it lies as its codec says. No condition. EventCodes, walked. No condition. The law EventCodes returns true for every input: the bytes of any batch, and the batch of any bytes, the code tells as the reference does. No condition.
-/
import Derived.Test.YtgacfihidpijeaaRows
import Derived.Test.YtgacfihidpijeaaZD1
import Derived.ProofKit
import Derived.OpenShut
import Derived.ShutString
import Derived.ChangeOld
import Derived.Test.YtgacfihidpijeaaZD54
import Derived.Test.YtgacfihidpijeaaZD11
import Derived.Test.YtgacfihidpijeaaZD32
import Derived.Test.YtgacfihidpijeaaZD34
import Derived.Test.YtgacfihidpijeaaZD35
import Derived.Test.YtgacfihidpijeaaZD2
import Derived.Test.YtgacfihidpijeaaZD44
import Derived.Test.YtgacfihidpijeaaZD53
set_option linter.unusedVariables false
namespace Go.Proofs.Ytgacfihidpijeaa.MM
open Go.ChangeShapes Go.WideShapes Go.ChangeAt Go.RowKit Go.Proofs

theorem own : ownKnob Try.prog.godebug = none := by kernel_rfl
theorem laidOut : laidOutB Try.prog = true := by kernel_rfl

theorem cell_lt {w : World} {b o : Nat} {v : Value} (h : w.cell? ⟨b, o, none⟩ = some v) : b < w.heap.size := by
  by_cases hb : b < w.heap.size
  · exact hb
  · simp [World.cell?, Array.getElem?_eq_none (Nat.le_of_not_lt hb)] at h

/-- Cells behind an address read as a row. -/
theorem row_of_cells {W : World} {a : Addr} {len cap : Nat} {xs : List Value} (hl : xs.length = len) (hlc : len ≤ cap) (hcm : cap ≤ maxLen) (hc : ∀ i u, xs[i]? = some u → W.cell? (a.add i) = some u) : Row W (.slice (some a) len cap) xs := by
  subst hl
  refine ⟨some a, cap, rfl, hlc, hcm, (fun h => by cases h), ?_⟩
  cases xs with
  | nil => exact .inl rfl
  | cons x xs =>
    right
    obtain ⟨b, off, spot⟩ := a
    have hc0 := hc 0 x rfl
    have hspot : spot = none := by simpa [Addr.add] using World.cell?_spot hc0
    subst hspot
    refine ⟨b, off, rfl, cell_lt (o := off) (v := x) (by simpa [Addr.add] using hc0), fun i u hi => ?_⟩
    rw [← add_at]
    exact hc i u hi

theorem u64_of_wf {x : Int} (h : (Lit.int .u64 x).wf = true) : ∃ n : Nat, x = (n : Int) ∧ n < 18446744073709551616 := by
  simp only [Lit.wf, Bool.and_eq_true, decide_eq_true_eq] at h
  have h1 : IntKind.u64.min = 0 := by decide
  have h2 : IntKind.u64.max = 18446744073709551615 := by decide
  rw [h1, h2] at h
  exact ⟨x.toNat, by omega, by omega⟩
theorem u32_of_wf {x : Int} (h : (Lit.int .u32 x).wf = true) : ∃ n : Nat, x = (n : Int) ∧ n < 4294967296 := by
  simp only [Lit.wf, Bool.and_eq_true, decide_eq_true_eq] at h
  have h1 : IntKind.u32.min = 0 := by decide
  have h2 : IntKind.u32.max = 4294967295 := by decide
  rw [h1, h2] at h
  exact ⟨x.toNat, by omega, by omega⟩
theorem u16_of_wf {x : Int} (h : (Lit.int .u16 x).wf = true) : ∃ n : Nat, x = (n : Int) ∧ n < 65536 := by
  simp only [Lit.wf, Bool.and_eq_true, decide_eq_true_eq] at h
  have h1 : IntKind.u16.min = 0 := by decide
  have h2 : IntKind.u16.max = 65535 := by decide
  rw [h1, h2] at h
  exact ⟨x.toNat, by omega, by omega⟩
theorem u8nat_of_wf {x : Int} (h : (Lit.int .u8 x).wf = true) : ∃ n : Nat, x = (n : Int) ∧ n < 256 := by
  simp only [Lit.wf, Bool.and_eq_true, decide_eq_true_eq] at h
  have h1 : IntKind.u8.min = 0 := by decide
  have h2 : IntKind.u8.max = 255 := by decide
  rw [h1, h2] at h
  exact ⟨x.toNat, by omega, by omega⟩
theorem u8_of_wf {x : Int} (h : (Lit.int .u8 x).wf = true) : 0 ≤ x ∧ x < 256 := by
  simp only [Lit.wf, Bool.and_eq_true, decide_eq_true_eq] at h
  have h1 : IntKind.u8.min = 0 := by decide
  have h2 : IntKind.u8.max = 255 := by decide
  rw [h1, h2] at h
  omega
theorem i64_of_wf {x : Int} (h : (Lit.int .i64 x).wf = true) : -9223372036854775808 ≤ x ∧ x ≤ 9223372036854775807 := by
  simp only [Lit.wf, Bool.and_eq_true, decide_eq_true_eq] at h
  have h1 : IntKind.i64.min = -9223372036854775808 := by decide
  have h2 : IntKind.i64.max = 9223372036854775807 := by decide
  rw [h1, h2] at h
  exact h

/-- A slice of bytes that came in. -/
theorem argBytes {H : Type} {enc : TypeId × Value → H} {W : World} {base : Nat} {T e : TypeId} {a : Option Addr} {len cap : Nat} {d : DataW H} {p : List MemPlace}
    (ht : Try.prog.underlying T = some (.slice e)) (he : Try.prog.underlying e = some (.int .u8)) (hc : Try.prog.cellsOf e = 1)
    (h : ∃ fuel, DataW.trod enc Try.prog W base (fun _ => true) true fuel T (Value.slice a len cap).cells.toList = some (d, p)) : ∃ l, BRow W (.slice a len cap) l := by
  obtain ⟨fuel, hf⟩ := h
  rcases open_ints ht he hc hf with ⟨hcs, _⟩ | ⟨x, n, c, zs, hcs, _, hl, hm, hz, _, hcell, hwz⟩
  · simp [Value.cells] at hcs
    obtain ⟨rfl, rfl, rfl⟩ := hcs
    exact ⟨[], BRow.nil_ W⟩
  · simp [Value.cells] at hcs
    obtain ⟨rfl, rfl, rfl⟩ := hcs
    have hzl : zs.length = cap := by simpa using hz
    refine ⟨(zs.take len).map (fun z => UInt8.ofNat z.toNat), row_of_cells (by rw [byteCells_len, List.length_map, List.length_take]; omega) hl hm (fun i u hi => ?_)⟩
    have hi2 : i < len := by
      have := (List.getElem?_eq_some_iff.1 hi).1
      rw [byteCells_len, List.length_map, List.length_take] at this
      omega
    have hlt : i < zs.length := by omega
    have hb := u8_of_wf (hwz zs[i] (List.getElem_mem hlt))
    have hu : u = .int .u8 (zs[i]) := by
      have hg := hi
      simp only [Lib.byteCells, List.getElem?_map, List.getElem?_take, if_pos hi2, List.getElem?_eq_getElem hlt, Option.map_some, Option.some.injEq] at hg
      rw [← hg]
      refine congrArg (Value.int .u8) ?_
      rw [UInt8.toNat_ofNat']
      omega
    rw [hu, hcell i hlt]
    simp [List.getD, hlt]
end Go.Proofs.Ytgacfihidpijeaa.MM
set_option linter.unusedVariables false
namespace Go.Proofs.Ytgacfihidpijeaa.EV
open Go Go.RowKit Go.Proofs.Ytgacfihidpijeaa.MM Go.Proofs.Ytgacfihidpijeaa.EM

def FitS (p : Fld) : Prop := p.1.length ≤ maxLen ∧ p.2.length ≤ maxLen
theorem reads_fld : Reads Try.prog fldC FitS 68 := reads_pair Try.underlying68 rfl rfl (by kernel_rfl) (by kernel_rfl) (by kernel_rfl) (reads_str Try.underlying9) (reads_str Try.underlying9)
def FitEv (e : Ev) : Prop := FitI e.1 ∧ (∀ f ∈ e.2, FitS f) ∧ e.2.length ≤ maxLen
theorem reads_ev : Reads Try.prog evC FitEv 24 := reads_pair Try.underlying24 rfl rfl (by kernel_rfl) (by kernel_rfl) (by kernel_rfl) (reads_int Try.underlying3) (reads_row Try.underlying22 (by kernel_rfl) reads_fld)
/-- An event's cells. -/
theorem ev_cells {S : Nat → Prop} {w : World} {cs : Array Value} {e : Ev} (h : evC.on S w cs.toList e) : ∃ v, cs = #[.int .i64 e.1, v] ∧ ROn fldC S w v e.2 := by
  obtain ⟨v, hv, hr⟩ := ev_on.1 h
  exact ⟨v, by apply Array.toList_inj.1; rw [hv], hr⟩
theorem str_back (s : ByteArray) : s = ⟨s.data.toList.toArray⟩ := by simp
end Go.Proofs.Ytgacfihidpijeaa.EV
set_option linter.unusedVariables false
namespace Go.Proofs.Ytgacfihidpijeaa.EV
open Go Go.RowKit Go.Proofs.Ytgacfihidpijeaa.MM Go.Proofs.Ytgacfihidpijeaa.EM

def FitBat (b : Bat) : Prop := FitI b.1 ∧ (∀ e ∈ b.2, FitEv e) ∧ b.2.length ≤ maxLen
theorem reads_bat : Reads Try.prog batC FitBat 34 := reads_pair Try.underlying34 rfl rfl (by kernel_rfl) (by kernel_rfl) (by kernel_rfl) (reads_int Try.underlying3) (reads_row Try.underlying32 (by kernel_rfl) reads_ev)
end Go.Proofs.Ytgacfihidpijeaa.EV
set_option linter.unusedVariables false
namespace Go.Proofs.Ytgacfihidpijeaa.EV
open Go Go.RowKit Go.Proofs.Ytgacfihidpijeaa.MM Go.Proofs.Ytgacfihidpijeaa.EM Go.Proofs.Ytgacfihidpijeaa.VM
open Go.Proofs.Ytgacfihidpijeaa.VP

set_option maxRecDepth 100000 in
set_option maxHeartbeats 4000000 in
theorem codes_walk (z : Int) (u : Value) (es : List Ev) (b : Value) (l : List UInt8) (w : World) (hb : BRow w b l) (hr : RAny evC w u es) (hf : ∀ e ∈ es, FitE e) :
    Calls Try.prog 6 #[.agg #[.int .i64 z, u], b] w fun e w' => e = .returned (.bool true) ∧ Below w.heap.size w w' := by
  obtain ⟨p, cap, rfl, hlc, hcm, _⟩ := hr.shape
  unfold maxLen at hcm
  have hbx := btbox_below w z (.slice p es.length cap)
  have HL := Lib.hid (lightb_any z _ es _ (RAny.below hr hbx))
  have HR := Lib.hid hr
  have HB := Lib.hid hb
  have HF := Lib.hid hf
  clear hr hbx hb hf
  go_enter Try.func6, Try.ntmps6
  go_wp2_with fail
  refine HL.out.mono ?_
  rintro e w1 ⟨b1, rfl, hb1⟩
  obtain ⟨c0, c1, hbw⟩ := btbox_in hb1
  have HB1 := Lib.hid hb1
  have HBW1 := Lib.hid hbw
  clear hb1 HL
  cases b1 with
  | false =>
    clear hbw
    go_wp2_with fail
    refine (awake_any _).mono ?_
    rintro e w2 ⟨rfl, hb2⟩
    have HB2 := Lib.hid (HBW1.out.trans (hb2.mono HBW1.out.size))
    clear hb2
    go_wp2_with fail
    go_ret
    exact ⟨rfl, HB2.out⟩
  | true =>
    go_wp2_with fail
    refine (lcut_any w.heap.size b l w1 (BIn.below HB.out HBW1.out)).mono ?_
    rintro e w1' ⟨u1, rfl, hu1, rfl⟩
    obtain ⟨L, hL⟩ : ∃ L, cutL l = L := ⟨_, rfl⟩
    rw [hL] at hu1
    have HU1 := Lib.hid hu1
    have hs1 := hbw.size
    obtain ⟨ec, hec⟩ : ∃ ec, checkB (z, es) = ec := ⟨_, rfl⟩
    obtain ⟨X, hX⟩ : ∃ X, encR (z, es) = X := ⟨_, rfl⟩
    have HCE := Lib.hid (fun W (h : RAny evC W (.slice p es.length cap) es) => cencode_any z _ es W h HF.out)
    have HRE := Lib.hid (fun W (h : RAny evC W (.slice p es.length cap) es) => rencode_any z _ es W h HF.out)
    rw [hec, hX] at HCE HRE
    clear hbw hu1 hL HB hec hX
    go_wp2_with fail
    refine (HCE.out w1' (HR.out.below HBW1.out)).mono ?_
    rintro e w2 ⟨x2, rfl, ho2, hb2⟩
    have HO2 := Lib.hid ho2.brow
    have HBB2 := Lib.hid (HB1.out.trans (hb2.mono HB1.out.size))
    have HBW2 := Lib.hid (HBW1.out.trans (hb2.mono HBW1.out.size))
    have HU2 := Lib.hid (HU1.out.below (hb2.mono hs1))
    obtain ⟨d0, d1, _⟩ := btbox_in HBB2.out
    clear ho2 hb2 c0 c1 HB1 HBW1 HU1 HCE
    go_wp2_with fail
    refine (HRE.out w2 (HR.out.below HBW2.out)).mono ?_
    rintro e w3 ⟨x3, rfl, ho3, hb3⟩
    have HO3 := Lib.hid ho3.brow
    have HP3 := Lib.hid (BRow.below HO2.out hb3)
    have HBW3 := Lib.hid (HBW2.out.trans (hb3.mono HBW2.out.size))
    have HU3 := Lib.hid (HU2.out.below (hb3.mono HBW2.out.size))
    clear ho3 hb3 d0 d1 HBB2 HBW2 HU2 HRE HO2
    go_wp2_with fail
    refine (cdec_any u1 L w3 (HU3.out.row HBW3.out.size)).mono ?_
    have hgi := rdec_in w.heap.size u1 L
    obtain ⟨⟨⟨n, gs⟩, er⟩, hG⟩ : ∃ G, decR L = G := ⟨_, rfl⟩
    rw [hG] at hgi ⊢
    have HGI := Lib.hid hgi
    rintro e w4 ⟨u4, rfl, hu4, hb4⟩
    dsimp only at hu4 ⊢
    obtain ⟨p4, c4, rfl, _⟩ := hu4.shape
    obtain ⟨w5, hw5⟩ : ∃ w5, w4.alloc (.cells #[.int .i64 n, .slice p4 gs.length c4] 34) = w5 := ⟨_, rfl⟩
    have ha4 : Below w4.heap.size w4 w5 := by rw [← hw5]; exact (Below.refl _ _).alloc (Nat.le_refl _) _
    have x5 : Two w5 w4.heap.size 34 (.int .i64 n) (.slice p4 gs.length c4) := by rw [← hw5]; exact two_new w4 34 _ _
    have h35 := hb4.trans (ha4.mono hb4.size)
    have HW5 := Lib.hid hw5
    have HX5 := Lib.hid x5
    have HG5 := Lib.hid (RAny.below hu4 ha4)
    have HO5 := Lib.hid (BRow.below HO3.out h35)
    have HP5 := Lib.hid (BRow.below HP3.out h35)
    have HBW5 := Lib.hid (HBW3.out.trans (h35.mono HBW3.out.size))
    have HU5 := Lib.hid (HU3.out.below (h35.mono HBW3.out.size))
    clear hu4 hb4 ha4 x5 h35 hw5 hgi hG HO3 HP3 HBW3 HU3
    go_wp2_with fail
    rw [HW5.out]
    refine (HGI.out w5 HU5.out HBW5.out.size).mono ?_
    rintro e w6 ⟨u6, rfl, hu6, hb6⟩
    dsimp only at hu6 ⊢
    obtain ⟨p6, c6, rfl, _⟩ := hu6.shape
    obtain ⟨w7, hw7⟩ : ∃ w7, w6.alloc (.cells #[.int .i64 n, .slice p6 gs.length c6] 34) = w7 := ⟨_, rfl⟩
    have ha6 : Below w6.heap.size w6 w7 := by rw [← hw7]; exact (Below.refl _ _).alloc (Nat.le_refl _) _
    have x7 : Two w7 w6.heap.size 34 (.int .i64 n) (.slice p6 gs.length c6) := by rw [← hw7]; exact two_new w6 34 _ _
    have h57 := hb6.trans (ha6.mono hb6.size)
    have y7 := HX5.out.below h57 HX5.out.lt
    have m0 := y7.c0
    have m1 := y7.c1
    have n0 := x7.c0
    have n1 := x7.c1
    have e1 := BIn.conv (BRow.below HO5.out h57)
    have e2 := BIn.conv (BRow.below HP5.out h57)
    have HW7 := Lib.hid hw7
    have HG7 := Lib.hid (RAny.below HG5.out h57)
    have HH7 := Lib.hid (RAny.below hu6 ha6)
    have HBW7 := Lib.hid (HBW5.out.trans (h57.mono HBW5.out.size))
    rw [← hw7] at m0 m1 n0 n1 e1 e2
    clear hu6 hb6 ha6 x7 y7 h57 hw7 HGI HX5 HG5 HO5 HP5 HBW5 HU5
    go_wp2_with fail
    rw [HW7.out]
    refine (samebat_any n n _ _ gs gs w7 HG7.out HH7.out).mono ?_
    rintro e w8 ⟨rfl, hb8⟩
    rw [decide_eq_true (rfl : (n, gs) = (n, gs))]
    have HBW8 := Lib.hid (HBW7.out.trans (hb8.mono HBW7.out.size))
    clear hb8 m0 m1 n0 n1 e1 e2 HG7 HH7 HBW7
    go_wp2_with fail
    refine (awake_any _).mono ?_
    rintro e w9 ⟨rfl, hb9⟩
    have HEND := Lib.hid (HBW8.out.trans (hb9.mono HBW8.out.size))
    clear hb9
    go_wp2_with fail
    go_ret
    exact ⟨rfl, HEND.out⟩

set_option maxRecDepth 100000 in
theorem codes_call (cs0 : Array Value) (e0 : Bat) (b : Value) (l : List UInt8) (W : World) (h0 : batC.on (fun _ => True) W cs0.toList e0) (hg : FitBat e0) (hb : BRow W b l) :
    Calls Try.prog 6 #[.agg cs0, b] W fun e W' => e = .returned (.bool true) ∧ Below W.heap.size W W' := by
  obtain ⟨v, hv, hr⟩ := bat_on.1 h0
  obtain rfl : cs0 = #[.int .i64 e0.1, v] := by apply Array.toList_inj.1; rw [hv]
  exact codes_walk e0.1 v e0.2 b l W hb hr.any fun e he => ⟨(hg.2.1 e he).1.1, (hg.2.1 e he).1.2⟩
end Go.Proofs.Ytgacfihidpijeaa.EV
set_option linter.unusedVariables false
namespace Go.Proofs.Ytgacfihidpijeaa.EF4
open Go.ChangeShapes Go.WideShapes Go.ChangeAt Go.RowKit Go.Proofs.Ytgacfihidpijeaa.MM
open Go.ChangeMaps (open_string shut_string)

set_option maxRecDepth 100000 in
theorem contract (H : Type) (enc : TypeId × Value → H) (W : World) (args : Array Value) (ds gs : List (DataW H)) (before : List MemPlace)
    (hval : ∀ (j : Nat) t v, Try.f6.params[j]? = some t → args[j]? = some v → Value.okWide Try.prog W .any 0 t v)
    (hW : DataW.Whole enc Try.prog Try.f6.params.toList Rows.eventCodesSpec.vars false W args.toList ds gs before) :
    Calls Try.prog 6 args W fun e W' => ∃ v, e = .returned v ∧ Rows.eventCodesSpec.post enc Try.prog Try.f6 false true false false W args v W' := by
  have hW' := hW
  obtain ⟨p, q, hA0, hV, rfl, hfz, hnd⟩ := hW
  have hA : DataW.TrodAll enc Try.prog W 0 (fun _ => true) true Try.f6.params.toList args.toList ds p := hA0
  rw [Try.params6] at hA hval
  obtain ⟨v0, vs0, d0, ds0, p0, q0, hargs, rfl, rfl, h0, r0⟩ := trodAll_cons hA
  obtain ⟨v1, vs1, d1, ds1, p1, q1, rfl, rfl, rfl, h1, r1⟩ := trodAll_cons r0
  obtain ⟨rfl, rfl, rfl⟩ := trodAll_nil r1
  obtain rfl : args = #[v0, v1] := by cases args; simp_all
  obtain ⟨rfl, rfl⟩ := trodVars_none hV
  have k0 := h0
  have lt0 : ∀ x ∈ p0, x.block < W.heap.size := by obtain ⟨m, hm⟩ := k0; exact DataW.trod_lt m _ _ _ hm
  obtain ⟨cs0, e0, rfl, b0, g0⟩ := argC_struct EV.reads_bat Try.underlying34 (hval 0 34 v0 rfl rfl) h0
  obtain ⟨a1, len1, cap1, rfl⟩ := okWide_slice Try.underlying40 (hval 1 40 v1 rfl rfl)
  have k1 := h1
  have lt1 : ∀ x ∈ p1, x.block < W.heap.size := by obtain ⟨m, hm⟩ := k1; exact DataW.trod_lt m _ _ _ hm
  obtain ⟨l1, b1⟩ := argBytes Try.underlying40 Try.underlying5 (by kernel_rfl) h1
  clear hA0
  refine (EV.codes_call cs0 e0 (.slice a1 len1 cap1) l1 W b0 g0 b1).mono fun e W' ⟨he, bel⟩ => ?_
  subst he
  exact ⟨_, rfl, _, _, _, [], _, [], hW', trodAll_mk1 (shut_bool Try.underlying4 _), (trodAll_cons_mk (Below.trod laidOut (by kernel_rfl) (of_decide_eq_true (by kernel_rfl)) k0 bel lt0) (trodAll_cons_mk (Below.trod laidOut (by kernel_rfl) (of_decide_eq_true (by kernel_rfl)) k1 bel lt1) trodAll_mk0)), rfl, bel.frame _, fun h => by cases h⟩

set_option maxRecDepth 100000 in
theorem lifted (os : Os) (started : os.Started) (H : Type) (enc : TypeId × Value → H) :
    ReturnsInHanded {} Try.checked os 6 .any (Rows.eventCodesSpec.pre6 enc Try.prog Try.f6 Rows.eventCodesRow.domain false) (Rows.eventCodesSpec.post enc Try.prog Try.f6 false true false false) := by
  refine returnsInHanded_of_change (C := Try.checked) own started (by kernel_rfl) Try.func6
    (ChangeSpec.witness6 (enc := enc) (C := Try.checked) false ⟨#[], #[.agg #[.int .i64 0, .slice none 0 0], .slice none 0 0], []⟩ 8 (by kernel_rfl) (by kernel_rfl) (by kernel_rfl) (by kernel_rfl)) ?_
  intro W base args ds gs before hval hW _ _
  exact contract H enc W args ds gs before hval hW

theorem said : Rows.EventCodesSaid :=
  OpenClaim.holds_of_wide 6 Try.f6 rfl rfl rfl rfl rfl rfl rfl ⟨rfl, rfl, rfl, rfl, rfl⟩ rfl rfl rfl rfl rfl (by kernel_rfl) Try.func6 (by kernel_rfl)
    (of_decide_eq_true (by kernel_rfl)) (by unfold Func.isWrapper; first | (rw [if_pos (by decide +kernel)]; kernel_rfl) | (rw [if_neg (by decide +kernel)]; exact ⟨rfl, rfl⟩))
    (fun os started H enc _ => lifted os started H enc)
end Go.Proofs.Ytgacfihidpijeaa.EF4
namespace Go.Proofs.Ytgacfihidpijeaa
theorem eventCodes_holds : Rows.EventCodesSaid := EF4.said
#print axioms eventCodes_holds
end Go.Proofs.Ytgacfihidpijeaa
