/-
  A batch's events with their numbers: the code's Docs. No condition. A region that draws its order, as in RegK, whose last operations (a store, say) come one by one behind all others: what the others need to stay need not stay there. No condition. A block of two cells that is written; named results of which the first is such a block. No program of its own; no condition. The code's reader takes an event. No condition.
-/
import Derived.Test.YtgacfihidpijeaaZE14
import Derived.Test.YtgacfihidpijeaaZE19
import Derived.Test.YtgacfihidpijeaaZE15
import Derived.Laws.MakeOwn
import Derived.Test.YtgacfihidpijeaaZE2
import Derived.OrdersHeld
import Derived.StillTail
import Derived.RegionTactic
import Derived.Below
set_option linter.unusedVariables false
namespace Go.Proofs.Ytgacfihidpijeaa.EV
open Go Go.RowKit Go.Proofs.Ytgacfihidpijeaa.MM Go.Proofs.Ytgacfihidpijeaa.EM

abbrev Doc := Int × Ev
def docC : Codec Doc := cPair cInt evC
theorem doc_on {S : Nat → Prop} {w : World} {cs : List Value} {d : Doc} : docC.on S w cs d ↔ ∃ v, cs = [.int .i64 d.1, .int .i64 d.2.1, v] ∧ ROn fldC S w v d.2.2 := by
  constructor
  · rintro ⟨x, y, rfl, hx, hy⟩
    have hx : x = [.int .i64 d.1] := hx
    obtain ⟨v, hv, hr⟩ := ev_on.1 hy
    exact ⟨v, by rw [hx, hv]; rfl, hr⟩
  · rintro ⟨v, rfl, hr⟩
    exact ⟨[_], [_, _], rfl, rfl, ev_on.2 ⟨v, rfl, hr⟩⟩
def docsL (seq : Int) (es : List Ev) : List Doc := es.zipIdx.map fun p => (seq + (p.2 : Int), p.1)
theorem docsL_next (seq : Int) {es : List Ev} {k : Nat} (hk : k < es.length) : docsL seq (es.take (k + 1)) = docsL seq (es.take k) ++ [(seq + (k : Int), es[k])] := by
  unfold docsL
  rw [List.take_succ_eq_append_getElem hk, List.zipIdx_append, List.map_append]
  simp [Nat.min_eq_left (Nat.le_of_lt hk)]
theorem docsL_len (seq : Int) (es : List Ev) : (docsL seq es).length = es.length := by simp [docsL]
def docsB (b : Bat) : List Doc := if checkB b ≠ 0 then [] else docsL b.1 b.2
theorem fldE : Elem fldC Try.prog 22 68 32 := ⟨Try.underlying22, by
  have h : (Try.prog.info? 68).map (fun i => (i.zero, i.size, i.bytes)) = some (some (.agg #[.string ⟨#[]⟩, .string ⟨#[]⟩]), 2, 32) := by kernel_rfl
  obtain ⟨i, h1, h2, h3, h4⟩ := info_parts h
  exact ⟨i, _, h1, h2, h3, h4, rfl⟩⟩
/-- Fields hold nothing behind their cells. -/
theorem fld_src {S S' : Nat → Prop} {w : World} {v : Value} {fs : List Fld} (h : ROn fldC S w v fs) : SrcX fldC S' w v fs := by
  obtain ⟨p, cap, raw, hv, h1, h3, hm, hc⟩ := ROn.src h
  exact ⟨p, cap, raw, hv, h1, h3, ⟨hm.1, fun i hi hi' => fld_on.2 (fld_on.1 (hm.2 i hi hi'))⟩, hc⟩

set_option maxRecDepth 100000 in
set_option maxHeartbeats 1000000 in
theorem clone_any (v : Value) (fs : List Fld) (w : World) (hr : RAny fldC w v fs) (hl : fs.length ≤ 100000) : Calls Try.prog 42 #[v] w fun e w' => ∃ u, e = .returned u ∧ ROn fldC (fun b => w.heap.size ≤ b) w' u fs ∧ Below w.heap.size w w' := by
  obtain ⟨p, cap, rfl, hlc, hcm, hn⟩ := hr.shape
  have hq := fun (w : World) (a : Option Addr) (n c : Nat) => Lib.run_eql_slice_nil (P := Try.prog) w 22 68 a n c 0 0 Try.underlying22
  cases p with
  | none =>
    have h0 := hn rfl
    subst h0
    have hf : fs = [] := List.eq_nil_of_length_eq_zero (by omega)
    subst hf
    clear hr
    go_enter Try.func42, Try.ntmps42
    go_wp2_with fail
    go_ret
    exact ⟨_, rfl, ROn.nil_ _ _, Below.refl _ _⟩
  | some ad =>
    have hb0 : Below w.heap.size w (w.alloc (.cells #[] 68)) := (Below.refl _ _).alloc (Nat.le_refl _) _
    have HO0 := Lib.hid (OwnX.lit0 (C := fldC) 68 (fun _ => False) w (Nat.le_refl _))
    have HS := Lib.hid (fld_src (S' := fun _ => False) (RAny.below hr hb0))
    have HB0 := Lib.hid hb0
    clear hr hb0
    go_enter Try.func42, Try.ntmps42
    go_wp2_with (at_builtin; go_loud (refine wpList_append_x fldE rfl _ _ rfl w.heap.size _ [] rfl HO0.out (fun b _ hb => hb.elim) _ fs rfl HS.out (by unfold maxLen; simp; omega) (by simp; omega) (by simp) ?_; intro v' w4 ho4 hb4 _; rw [List.nil_append] at ho4; obtain ⟨q4, c4, rfl, _⟩ := ho4.any.shape; have HO4 := Lib.hid ho4; have HB4 := Lib.hid (HB0.out.trans hb4); clear ho4 hb4))
    go_ret
    exact ⟨_, rfl, HO4.out.ron (fun g hg => (HO4.out.cells hg).1) (fun _ _ h => h.elim), HB4.out⟩

/-- What Docs leaves. -/
def DocsLeft (ds : List Doc) (w : World) (e : Ending) (w' : World) : Prop := ∃ u, e = .returned u ∧ RAny docC w' u ds ∧ Below w.heap.size w w'
set_option maxRecDepth 100000 in
set_option maxHeartbeats 4000000 in
theorem docs_any (seq : Int) (v : Value) (es : List Ev) (w : World) (hr : RAny evC w v es) : Calls Try.prog 22 #[.agg #[.int .i64 seq, v]] w (DocsLeft (docsB (seq, es)) w) := by
  have hbx := btbox_below w seq v
  have hck := cbatch_any seq v es _ (RAny.below hr hbx)
  obtain ⟨p, cap, rfl, hlc, hcm, _⟩ := hr.shape
  unfold maxLen at hcm
  have HCK := Lib.hid hck
  obtain ⟨DS, hDS⟩ : ∃ DS, docsB (seq, es) = DS := ⟨_, rfl⟩
  rw [hDS]
  have HDS := Lib.hid hDS
  clear hck hbx hDS
  go_enter Try.func22, Try.ntmps22
  go_wp2_with fail
  refine HCK.out.mono ?_
  rintro e w2 ⟨rfl, hb2⟩
  have HB2 := Lib.hid hb2
  obtain ⟨c0, c1, hbw⟩ := btbox_in hb2
  have HBW := Lib.hid hbw
  obtain ⟨c, hc⟩ : ∃ c, checkB (seq, es) = c := ⟨_, rfl⟩
  rw [hc]
  by_cases h0 : c = 0
  · subst h0
    obtain ⟨hl1, hl64, hall, _, hs1, hs2⟩ := checkB_ok hc
    have hl1 : 1 ≤ es.length := hl1
    have hl64 : es.length ≤ 64 := hl64
    have hs1 : 1 ≤ seq := hs1
    have hs2 : seq ≤ 1099511627776 := by have : seq ≤ 1099511627776 - ((es.length : Int) - 1) := hs2; omega
    have e1 : docsB (seq, es) = docsL seq es := by unfold docsB; rw [if_neg (by simp [hc])]
    have e2 : DS = docsL seq es := by rw [← HDS.out, e1]
    have HE2 := Lib.hid e2
    have HALL : Hid (∀ e ∈ es, checkE e = 0) := Lib.hid hall
    have HR := Lib.hid hr
    obtain ⟨iD, hiD, hzD0, hzD1, hzD2⟩ := info_parts (show (Try.prog.info? 71).map (fun i => (i.zero, i.size, i.bytes)) = some (some (.agg #[.int .i64 0, .int .i64 0, .slice none 0 0]), 3, 40) by kernel_rfl)
    clear hb2 hbw hc hall e1 e2 hr HCK
    go_wp2_with (at_make; go_loud (refine wpList_make_full w2 rfl _ _ 37 rfl w2.heap.size 71 iD (.agg #[.int .i64 0, .int .i64 0, .slice none 0 0]) 3 Try.underlying37 hiD hzD0 hzD1 .i64 .i64 _ _ es.length rfl rfl rfl rfl (by rw [hzD2]; omega) (by unfold maxLen; omega) (Nat.le_refl _) ?_))
    intro w3 hown3 hg3
    have b3 := (Below.refl w2.heap.size w2).grown hg3 (Nat.le_refl _) (fun k h => by cases h)
    have HH3 := Lib.hid (HalfX.start (C := docC) (e := 71) (S := fun b => b ≠ w2.heap.size) hown3)
    have HB3 := Lib.hid b3
    have HBB3 := Lib.hid (HB2.out.trans (b3.mono HB2.out.size))
    have HS0 : Hid (docsL seq (es.take 0) = []) := Lib.hid (by simp [docsL])
    clear hown3 hg3 b3 c0 c1 hzD0 hzD1 hzD2 hiD
    obtain ⟨_, c1, _⟩ := btbox_in HBB3.out
    go_wp2_with fail
    go_loopw [16] (fun iv wr => ∃ i : Nat, i ≤ es.length ∧ iv = .int .i64 i ∧ Hid (HalfX docC 71 (fun b => b ≠ w2.heap.size) wr w2.heap.size es.length (docsL seq (es.take i))) ∧ Hid (Below (btBox w seq (.slice p es.length cap)).heap.size (btBox w seq (.slice p es.length cap)) wr) ∧ Hid (Below w2.heap.size w2 wr)) (fun iv _ => es.length - (intOf iv).toNat)
    case atStart => exact ⟨0, by omega, rfl, Lib.hid (by rw [HS0.out]; exact HH3.out), HBB3, HB3⟩
    case round =>
      obtain ⟨i, hi, rfl, HH, HBB, HB⟩ := hrel
      clear HH3 HBB3 HB3 HS0
      obtain ⟨d0, d1, hbw⟩ := btbox_in HBB.out
      by_cases hlt : i < es.length
      · have q1 : decide ((i : Int) < (es.length : Int)) = true := by rw [decide_eq_true_eq]; omega
        have q2 : decide (i < es.length) = true := by rw [decide_eq_true_eq]; omega
        have q3 : (i : Int) < es.length := by omega
        obtain ⟨b, off, vf, rfl, hbl, _, k1, k2, hf⟩ := ev_at (HR.out.below hbw) hlt
        have hnx := docsL_next seq hlt
        have hlen := docsL_len seq (es.take i)
        rw [List.length_take, Nat.min_eq_left (by omega)] at hlen
        have hok := (checkE_ok.1 (HALL.out es[i] (List.getElem_mem hlt))).1
        obtain ⟨⟨z, fs⟩, hz2⟩ : ∃ e, es[i] = e := ⟨_, rfl⟩
        rw [hz2] at k1 hf hnx hok
        change ROn fldC _ wr vf fs at hf
        change wr.cell? ⟨b, off + i * 2, none⟩ = some (.int .i64 z) at k1
        have hok : fs.length ≤ 16 := hok
        obtain ⟨pf, cf, rfl, _⟩ := hf.shape
        have HNX := Lib.hid hnx
        have HLEN := Lib.hid hlen
        have HLT := Lib.hid hlt
        have HF := Lib.hid hf
        have hg2 := HB.out.size
        have hgH : w2.heap.size < wr.heap.size := HH.out.1
        have hw2 := hbw.size
        have hww : w.heap.size < w2.heap.size := by have := HB2.out.size; rw [btbox_size] at this; omega
        clear hnx hlen hf hz2 hbw
        go_wp2_with fail
        refine RK.begin_ (T := fun b => b ≠ w2.heap.size) [(0, true), (1, true), (2, true), (3, true), (4, true), (5, true), (6, true), (7, true), (8, true), (9, true), (10, false), (11, true), (12, true), (13, true), (14, false)] (by kernel_rfl) (by kernel_rfl) rfl (by kernel_rfl) (fun _ _ d _ _ h => by cases d <;> exact h) ?_
        simp only [RK.ordered, List.map_cons, List.map_nil, List.getElem?_toArray, List.getElem?_cons_succ, List.getElem?_cons_zero]
        obtain ⟨wd, hwd⟩ : ∃ wd, (wr.alloc (.cells #[.int .i64 z, .slice pf fs.length cf] 24)).drew = wd := ⟨_, rfl⟩
        have hbd : Below wr.heap.size wr wd := by rw [← hwd]; exact ((Below.refl _ _).alloc (Nat.le_refl _) _).drew
        have n0 : wd.cell? ⟨wr.heap.size, 0, none⟩ = some (.int .i64 z) := by rw [← hwd]; exact (new_two wr _ _ _).1
        have n1 : wd.cell? ⟨wr.heap.size, 1, none⟩ = some (.slice pf fs.length cf) := by rw [← hwd]; exact (new_two wr _ _ _).2
        have hsd : wr.heap.size < wd.heap.size := by rw [← hwd]; simp
        have G := Lib.hid (fun W (hW : Kep (fun b => b ≠ w2.heap.size) wd W) => (show W.cell? ⟨w.heap.size, 0, none⟩ = some (.int .i64 seq) ∧ W.cell? ⟨wr.heap.size, 0, none⟩ = some (.int .i64 z) ∧ W.cell? ⟨wr.heap.size, 1, none⟩ = some (.slice pf fs.length cf) from
          ⟨(hW.cell (by omega) (by omega) 0).trans ((hbd.cell (p := ⟨w.heap.size, 0, none⟩) (show w.heap.size < wr.heap.size by omega)).trans d0), (hW.cell hsd (by omega) 0).trans n0, (hW.cell hsd (by omega) 1).trans n1⟩))
        have HFD := Lib.hid (RAny.below HF.out hbd)
        have HHD := Lib.hid (HH.out.keep (kep_below (fun _ => True) hbd) trivial fun _ _ _ => trivial)
        have HBD := Lib.hid hbd
        rw [hwd]
        clear hwd hbd n0 n1 hlt
        repeat (refine RK.take (by rfl) (by intro W hW; obtain ⟨f1, f2, f3⟩ := G.out W hW; go_simp; with_reducible rfl) ?_; simp only [Act.put, List.setIfInBounds_toArray, List.set_cons_zero, List.set_cons_succ])
        refine RK.alone (by rfl) (fun K hK => ?_)
        go_simp
        refine (clone_any _ fs wd HFD.out (by omega)).mono ?_
        rintro e w5 ⟨u5, rfl, hu5, hb5⟩
        obtain ⟨p5, c5, rfl, _⟩ := hu5.shape
        go_simp
        refine hK.out _ _ (kep_below _ hb5) ?_
        clear hK K
        have HU5 := Lib.hid hu5
        have HB5 := Lib.hid hb5
        clear hu5 hb5
        have hwrp : IntKind.i64.wrap (seq + (i : Int)) = seq + (i : Int) := by rw [IntWalk.i64_left]; exact IntWalk.wrap64_in _ ⟨by omega, by omega⟩
        try rw [hwrp]
        repeat (refine RK.take (by rfl) (by intro W hW; go_simp; with_reducible rfl) ?_; simp only [Act.put, List.setIfInBounds_toArray, List.set_cons_zero, List.set_cons_succ])
        refine RK.alone (by rfl) (fun K hK => ?_)
        have HH5 := HHD.out.keep (kep_below (fun _ => True) HB5.out) trivial fun _ _ _ => trivial
        have hth := HalfX.there HH5 (k := i) (HLT.out)
        have hon : docC.on (fun b => b ≠ w2.heap.size) w5 [.int .i64 (seq + (i : Int)), .int .i64 z, .slice p5 fs.length c5] (seq + (i : Int), (z, fs)) := doc_on.2 ⟨_, rfl, HU5.out.weak fun b _ hb => by have : wd.heap.size ≤ b := hb; omega⟩
        have hnext := HalfX.next HH5 (by rw [HLEN.out]; exact HLT.out) hon (fun h => h rfl)
        rw [HLEN.out, ← HNX.out] at hnext
        have HNEXT := Lib.hid hnext
        refine wp_store_mid 71 _ _ rfl w2.heap.size (i * 3) #[.int .i64 (seq + (i : Int)), .int .i64 z, .slice p5 fs.length c5] rfl rfl hth (by kernel_rfl) (all_oneCell_toArray (cs := [.int .i64 (seq + (i : Int)), .int .i64 z, .slice p5 fs.length c5]) (by intro v hv; simp only [List.mem_cons, List.not_mem_nil, or_false] at hv; rcases hv with rfl | rfl | rfl <;> rfl)) ?_
        have hk6 := kep_sets (g := w2.heap.size) [.int .i64 (seq + (i : Int)), .int .i64 z, .slice p5 fs.length c5] w5 (i * 3)
        change K _ (w5.setCells w2.heap.size (i * 3) [.int .i64 (seq + (i : Int)), .int .i64 z, .slice p5 fs.length c5])
        change Hid (HalfX docC 71 (fun b => b ≠ w2.heap.size) (w5.setCells w2.heap.size (i * 3) [.int .i64 (seq + (i : Int)), .int .i64 z, .slice p5 fs.length c5]) w2.heap.size es.length (docsL seq (es.take (i + 1)))) at HNEXT
        generalize w5.setCells w2.heap.size (i * 3) [.int .i64 (seq + (i : Int)), .int .i64 z, .slice p5 fs.length c5] = w6 at *
        refine hK.out _ _ hk6 ?_
        clear hK K
        have h25 := (HBD.out.trans (HB5.out.mono (by omega)))
        have HBB6 := Lib.hid ((HBB.out.trans (h25.mono HBB.out.size)).trans (hk6.below (by have := HBB.out.size; have := h25.size; omega) fun k hk e => by rw [btbox_size] at hk; omega))
        have HB6 := Lib.hid ((HB.out.trans (h25.mono HB.out.size)).trans (hk6.below (by have := h25.size; omega) fun k hk e => by omega))
        clear HH5 hth hon hnext hk6 h25 G HFD HHD HBD HU5 HB5 hwrp
        refine RK.done ?_
        go_wp2_with fail
        have hlt := HLT.out
        go_roundw
        case rel => exact ⟨i + 1, by omega, by go_num, HNEXT, HBB6, HB6⟩
        case measure => simp [intOf]; omega
      · obtain rfl : i = es.length := by omega
        have q1 : decide ((es.length : Int) < (es.length : Int)) = false := by simp
        have q2 : decide (es.length < es.length) = false := by simp
        have HBW9 := Lib.hid hbw
        have hh := HH.out
        rw [List.take_length] at hh
        have HROW := Lib.hid (HalfX.ron (T := fun _ => True) hh (docsL_len seq es) (by unfold maxLen; omega) trivial fun _ _ _ => trivial)
        have hds := HE2.out
        subst hds
        clear hlt hbw hh HH HDS HE2
        go_wp2_with fail
        go_ret
        exact ⟨_, rfl, (by have := HROW.out; exact this), HBW9.out⟩
  · have q1 : (c != 0) = true := by simp [h0]
    have e1 : docsB (seq, es) = [] := by unfold docsB; rw [if_pos (by rw [hc]; exact h0)]
    have e2 : DS = [] := by rw [← HDS.out, e1]
    subst e2
    clear hb2 hbw hc e1 h0 hr HCK HDS
    go_wp2_with fail
    go_ret
    exact ⟨_, rfl, ROn.nil_ _ _, HBW.out⟩
end Go.Proofs.Ytgacfihidpijeaa.EV
namespace Go.Proofs.Ytgacfihidpijeaa.RS
open Go Go.RowKit Go.Proofs.Ytgacfihidpijeaa.MM

section
variable {P : Program} {ops : Array Oper} {Q : Exit → Act → World → Prop} {md : Region.Mode}

/-- Whatever order the first n come in, S holds behind each; then L. -/
def HL (P : Program) (md : Region.Mode) (ops : Array Oper) (Q : Exit → Act → World → Prop) (S : World → Prop) (n : Nat) (L : Array Bool → Act → World → Prop) : Nat → Array Bool → Act → World → Prop
  | 0, listed, a, w => L listed a w
  | f + 1, listed, a, w => Region.ready md ops listed ≠ [] ∧ ∀ i ∈ Region.ready md ops listed, i < n ∧ wpOp P ops Q i (fun a' w' => S w' ∧ HL P md ops Q S n L f (listed.setIfInBounds i true) a' w') a w

theorem any_of_head {S : World → Prop} {n g : Nat} {L : Array Bool → Act → World → Prop} (hL : ∀ listed a w, L listed a w → wpAny P md ops Q g listed a w) :
    ∀ (f : Nat) (listed : Array Bool) (a : Act) (w : World), HL P md ops Q S n L f listed a w → wpAny P md ops Q (f + g) listed a w
  | 0, listed, a, w, h => by rw [Nat.zero_add]; exact hL _ _ _ h
  | f + 1, listed, a, w, h => by
    rw [show f + 1 + g = (f + g) + 1 by omega]
    exact ⟨fun h0 => absurd h0 h.1, fun i hi => wpOp_mono (fun a' w' h' => any_of_head hL f _ a' w' h'.2) (h.2 i hi).2⟩

theorem first {S : World → Prop} {n i : Nat} {oi : Oper} {v : Value} {L : Array Bool → Act → World → Prop} (hi : ops[i]? = some oi) (hsel : ∀ (j : Nat) (o : Oper) cs b, ops[j]? = some o → o.op ≠ .select cs b)
    (hs : Region.sinkB md ops n = true) (hc : Region.chainB md ops n = true) (hn : n < ops.size) (hin : i < n) (hQ : ∀ c a w, Q (.panic c) (a.put oi.dst v) w → Q (.panic c) a w)
    (hdone : ∀ listed a w, L listed a w → ∀ j ∈ Region.ready md ops listed, n ≤ j) :
    ∀ (f : Nat) (listed : Array Bool) (a : Act) (w : World), HeadInv md ops n listed →
      (∀ j oj, ops[j]? = some oj → j ≠ i → listed.getD j true = false → (∀ e ∈ oj.after, Region.binds md e = true → e.on ≠ i) → oi.apart ops oj = true) →
      i ∈ Region.ready md ops listed → YieldsIf P ops S oi v a → S w →
      HL P md ops Q S n L f (listed.setIfInBounds i true) (a.put oi.dst v) w → HL P md ops Q S n L (f + 1) listed a w := by
  intro f
  induction f with
  | zero =>
    intro listed a w inv _ hr hy hS H
    have hun := (mem_ready.1 hr).1
    refine ⟨fun h => (by rw [h] at hr; cases hr), fun j hj => ?_⟩
    have hjn : j < n := by
      rcases Nat.lt_or_ge j n with h | h
      · exact h
      · exact absurd hj (tail_waits hs hc hn inv _ i rfl hin hun j h)
    refine ⟨hjn, ?_⟩
    by_cases hji : j = i
    · subst hji; exact hy.wpOp hi hS ⟨hS, H⟩
    · have := hdone _ _ _ H j (ready_mono hj hji)
      omega
  | succ f ih =>
    intro listed a w inv hfree hr hy hS H
    have hun := (mem_ready.1 hr).1
    refine ⟨fun h => (by rw [h] at hr; cases hr), fun j hj => ?_⟩
    have hjn : j < n := by
      rcases Nat.lt_or_ge j n with h | h
      · exact h
      · exact absurd hj (tail_waits hs hc hn inv _ i rfl hin hun j h)
    refine ⟨hjn, ?_⟩
    by_cases hji : j = i
    · subst hji; exact hy.wpOp hi hS ⟨hS, H⟩
    · have h1 := (H.2 j (ready_mono hj hji)).2
      obtain ⟨hjun, oj, hoj, hall⟩ := mem_ready.1 hj
      have hnot : ∀ e ∈ oj.after, Region.binds md e = true → e.on ≠ i := fun e he hb heq => by
        have h1 := hall e he hb
        rw [heq, getD_both hun] at h1
        cases h1
      have h2 := wpOp_putIf hoj (hfree j oj hoj hji hjun hnot) (fun cs b => hsel i oi cs b hi) (fun cs b => hsel j oj cs b hoj) hQ hy h1
      have hfree' : ∀ k ok, ops[k]? = some ok → k ≠ i → (listed.setIfInBounds j true).getD k true = false →
          (∀ e ∈ ok.after, Region.binds md e = true → e.on ≠ i) → oi.apart ops ok = true := fun k ok hk hki hun hno => by
        refine hfree k ok hk hki ?_ hno
        by_cases hjk : j = k
        · subst hjk; exact hjun
        · rw [getD_set_ne true hjk] at hun; exact hun
      refine wpOp_mono (fun a' w' h3 => ⟨h3.2.1, ih (listed.setIfInBounds j true) a' w' (inv.set hj hjn) hfree' (ready_mono hr (Ne.symm hji)) h3.1 h3.2.1 ?_⟩) h2
      rw [Array.setIfInBounds_comm _ _ hji]
      exact h3.2.2

/-- A way on, kept from the walk. -/
def Way (p : Prop) : Prop := p
theorem Way.out {p : Prop} (h : Way p) : p := h

/-- One order of the first; then the end. -/
def walk (T : Nat → Prop) (P : Program) (ops : Array Oper) (Q : Exit → Act → World → Prop) (E : Act → World → Prop) : List (Option Oper × Bool) → Act → World → Prop
  | [], a, w => E a w
  | (some o, true) :: rest, a, w => ∃ v, YieldsIf P ops (Kep T w) o v a ∧ walk T P ops Q E rest (a.put o.dst v) w
  | (some o, false) :: rest, a, w => ∀ K : Act → World → Prop, (∀ a' w', Kep T w w' → walk T P ops Q E rest a' w' → K a' w') → if Region.wanted o (yielded ops a.tmps) = true then o.wp P a w K Q else K (a.put o.dst undef) w
  | (none, _) :: _, _, _ => False
def ordered (ops : Array Oper) (l : List (Nat × Bool)) : List (Option Oper × Bool) := l.map fun p => (ops[p.1]?, p.2)
def planned (md : Region.Mode) (ops : Array Oper) (n g : Nat) : List (Nat × Bool) → Array Bool → Bool
  | [], listed => Region.seqB md ops g n listed
  | (i, true) :: rest, listed => Region.free md ops listed i && (Region.ready md ops listed).contains i && decide (i < n) && planned md ops n g rest (listed.setIfInBounds i true)
  | (i, false) :: rest, listed => (Region.ready md ops listed == [i]) && decide (i < n) && planned md ops n g rest (listed.setIfInBounds i true)

theorem HL_weaken {S S' : World → Prop} (hS : ∀ w, S' w → S w) {n : Nat} {L : Array Bool → Act → World → Prop} : ∀ (f : Nat) (listed : Array Bool) (a : Act) (w : World), HL P md ops Q S' n L f listed a w → HL P md ops Q S n L f listed a w
  | 0, _, _, _, h => h
  | f + 1, _, _, _, h => ⟨h.1, fun i hi => ⟨(h.2 i hi).1, wpOp_mono (fun a' w' h' => ⟨hS _ h'.1, HL_weaken hS f _ a' w' h'.2⟩) (h.2 i hi).2⟩⟩

theorem HL_of_walk {T : Nat → Prop} {E : Act → World → Prop} {n g : Nat} (hsel : Region.noSelect ops = true) (hs : Region.sinkB md ops n = true) (hc : Region.chainB md ops n = true) (hn : n < ops.size)
    (hQ : ∀ c a d v w, Q (.panic c) (Act.put a d v) w → Q (.panic c) a w) :
    ∀ (l : List (Nat × Bool)) (listed : Array Bool) (a : Act) (w : World), planned md ops n g l listed = true → HeadInv md ops n listed → walk T P ops Q E (ordered ops l) a w →
      HL P md ops Q (Kep T w) n (fun listed' a' w' => Region.seqB md ops g n listed' = true ∧ E a' w') l.length listed a w
  | [], listed, a, w, hp, inv, h => ⟨hp, h⟩
  | (i, b) :: rest, listed, a, w, hp, inv, h => by
    have h' : walk T P ops Q E ((ops[i]?, b) :: ordered ops rest) a w := h
    cases ho : ops[i]? with
    | none => rw [ho] at h'; cases b <;> exact h'.elim
    | some o =>
      rw [ho] at h'
      cases b with
      | true =>
        obtain ⟨v, hy, hr⟩ := h'
        simp only [planned, Bool.and_eq_true, decide_eq_true_eq] at hp
        obtain ⟨⟨⟨hf, hrd⟩, hin⟩, hrest⟩ := hp
        have hrd' : i ∈ Region.ready md ops listed := by simpa using hrd
        exact first ho (Region.noSelect_spec hsel) hs hc hn hin (fun c a w => hQ c a _ _ w) (fun listed' a' w' hL => seqB_ready hL.1) rest.length listed a w inv (Region.free_spec ho hf) hrd' hy (Kep.refl _ w)
          (HL_of_walk hsel hs hc hn hQ rest _ _ _ hrest (inv.set hrd' hin) hr)
      | false =>
        simp only [planned, Bool.and_eq_true, decide_eq_true_eq] at hp
        obtain ⟨⟨hrd, hin⟩, hrest⟩ := hp
        have hrd' : Region.ready md ops listed = [i] := by simpa using hrd
        refine ⟨by rw [hrd']; simp, fun j hj => ?_⟩
        obtain rfl : j = i := by rw [hrd'] at hj; simpa using hj
        refine ⟨hin, wpOp_step ho (fun K hK => h' K (fun a' w' h1 h2 => hK a' w' ⟨h1, HL_weaken (fun W hW => h1.trans hW) _ _ _ _ (HL_of_walk hsel hs hc hn hQ rest _ _ _ hrest (inv.set hj hin) h2)⟩))⟩

/-- All that is to be looked at of the plan. -/
def goodB (ops : Array Oper) (l : List (Nat × Bool)) : Bool :=
  Region.noSelect ops && decide (l.length < ops.size) && Region.sinkB .any ops l.length && Region.chainB .any ops l.length && planned .any ops l.length (ops.size - l.length) l (Array.replicate ops.size false)
/-- THE BEGINNING. -/
theorem begin_ {T : Nat → Prop} (l : List (Nat × Bool)) {id : Nat} {a : Act} {w : World} (hm : P.follows .mixedOrders = true) (hB : goodB ops l = true) (hQ : ∀ c a d v w, Q (.panic c) (Act.put a d v) w → Q (.panic c) a w)
    (h : walk T P ops Q (fun a' w' => wpList P ops Q (ops.toList.drop l.length) a' w') (ordered ops l) a w.drew) : (Code.region id ops true).wp P Q a w := by
  simp only [goodB, Bool.and_eq_true, decide_eq_true_eq] at hB
  obtain ⟨⟨⟨⟨hsel, hn⟩, hs⟩, hc⟩, hp⟩ := hB
  have inv0 : HeadInv .any ops l.length (Array.replicate ops.size false) :=
    ⟨by simp, fun j oj _ hl => (by rw [getD_replicate_false] at hl; cases hl), fun t _ ht => getD_in (by simpa using ht) (getD_replicate_false _ _)⟩
  have H := HL_of_walk (md := .any) hsel hs hc hn hQ l (Array.replicate ops.size false) a w.drew hp inv0 h
  refine wp_region_any hm ?_
  have hdl : (ops.toList.drop l.length).length = ops.size - l.length := by simp
  have := any_of_head (Q := Q) (g := ops.size - l.length) (fun listed a' w' hL => by
    have := wpAny_of_seq (md := .any) (Q' := Q) (ops := ops) (ops.toList.drop l.length) l.length listed a' w' (fun j => by simp [List.getElem?_drop]) (by rw [hdl]; exact hL.1) hL.2
    rwa [hdl] at this) _ _ _ _ H
  rw [show l.length + (ops.size - l.length) = ops.size by omega] at this
  exact this

variable {T : Nat → Prop} {E : Act → World → Prop}
/-- THE STEPS. -/
theorem take {rest : List (Option Oper × Bool)} {a : Act} {w : World} {o : Oper} {v : Value} (hw : Region.wanted o (yielded ops a.tmps) = true)
    (hy : ∀ W, Kep T w W → (execOp a.eval o).run P W = .ok (.value v) W) (h : walk T P ops Q E rest (a.put o.dst v) w) : walk T P ops Q E ((some o, true) :: rest) a w :=
  ⟨v, .inl ⟨hw, hy⟩, h⟩
theorem skip {rest : List (Option Oper × Bool)} {a : Act} {w : World} {o : Oper} (hw : Region.wanted o (yielded ops a.tmps) = false)
    (h : walk T P ops Q E rest (a.put o.dst undef) w) : walk T P ops Q E ((some o, true) :: rest) a w :=
  ⟨undef, .inr ⟨hw, rfl⟩, h⟩
theorem alone {rest : List (Option Oper × Bool)} {a : Act} {w : World} {o : Oper} (hw : Region.wanted o (yielded ops a.tmps) = true)
    (h : ∀ K : Act → World → Prop, Way (∀ a' w', Kep T w w' → walk T P ops Q E rest a' w' → K a' w') → o.wp P a w K Q) : walk T P ops Q E ((some o, false) :: rest) a w := by
  intro K hK
  rw [if_pos hw]
  exact h K hK
theorem done {a : Act} {w : World} (h : E a w) : walk T P ops Q E [] a w := h
end
end Go.Proofs.Ytgacfihidpijeaa.RS
set_option linter.unusedVariables false
namespace Go.Proofs.Ytgacfihidpijeaa.MM
open Go Go.RowKit

/-- Two cells. -/
def Two (w : World) (g : Nat) (t : TypeId) (a b : Value) : Prop := w.heap[g]? = some (.cells #[a, b] t (0, 0))
theorem Two.lt {w : World} {g : Nat} {t : TypeId} {a b : Value} (h : Two w g t a b) : g < w.heap.size := (Array.getElem?_eq_some_iff.1 h).1
theorem Two.c0 {w : World} {g : Nat} {t : TypeId} {a b : Value} (h : Two w g t a b) : w.cell? ⟨g, 0, none⟩ = some a := by rw [cell_of_row w g 0 _ _ _ h]; rfl
theorem Two.c1 {w : World} {g : Nat} {t : TypeId} {a b : Value} (h : Two w g t a b) : w.cell? ⟨g, 1, none⟩ = some b := by rw [cell_of_row w g 1 _ _ _ h]; rfl
theorem Two.f0 {w : World} {g : Nat} {t : TypeId} {a b : Value} (h : Two w g t a b) : w.frozen? ⟨g, 0, none⟩ = false := frozen_of_row w g 0 _ _ h
theorem Two.f1 {w : World} {g : Nat} {t : TypeId} {a b : Value} (h : Two w g t a b) : w.frozen? ⟨g, 1, none⟩ = false := frozen_of_row w g 1 _ _ h
theorem Two.s0 {w : World} {g : Nat} {t : TypeId} {a b : Value} (h : Two w g t a b) (x : Value) : Two (w.setCell ⟨g, 0, none⟩ x) g t x b := heap_setCell_same w g 0 _ _ x h
theorem Two.s1 {w : World} {g : Nat} {t : TypeId} {a b : Value} (h : Two w g t a b) (x : Value) : Two (w.setCell ⟨g, 1, none⟩ x) g t a x := heap_setCell_same w g 1 _ _ x h
theorem Two.s01 {w : World} {g : Nat} {t : TypeId} {a b : Value} (h : Two w g t a b) (x y : Value) : Two ((w.setCell ⟨g, 0, none⟩ x).setCell ⟨g, 1, none⟩ y) g t x y := (h.s0 x).s1 y
theorem Two.keep {S : Nat → Prop} {w w' : World} {g : Nat} {t : TypeId} {a b : Value} (h : Two w g t a b) (hk : Kep S w w') (hS : S g) : Two w' g t a b := (hk.block g h.lt hS).trans h
theorem Two.below {B : Nat} {w w' : World} {g : Nat} {t : TypeId} {a b : Value} (h : Two w g t a b) (hb : Below B w w') (hg : g < B) : Two w' g t a b := (hb.block g hg).trans h
theorem two_new (w : World) (t : TypeId) (a b : Value) : Two (w.alloc (.cells #[a, b] t)) w.heap.size t a b := heap_alloc_new _ _
/-- What the walk asks of a block of two cells that is written: first the first, then the second. -/
theorem Two.all {w : World} {g : Nat} {t : TypeId} {a b : Value} (h : Two w g t a b) (x : Value) :
    w.cell? ⟨g, 0, none⟩ = some a ∧ w.cell? ⟨g, 1, none⟩ = some b ∧ w.frozen? ⟨g, 0, none⟩ = false ∧ w.frozen? ⟨g, 1, none⟩ = false ∧ (w.setCell ⟨g, 0, none⟩ x).cell? ⟨g, 1, none⟩ = some b ∧ (w.setCell ⟨g, 0, none⟩ x).frozen? ⟨g, 1, none⟩ = false :=
  ⟨h.c0, h.c1, h.f0, h.f1, (h.s0 x).c1, (h.s0 x).f1⟩
theorem kep_set0 {w : World} {g i : Nat} (x : Value) : Kep (fun b => b ≠ g) w (w.setCell ⟨g, i, none⟩ x) := kep_set (fun h => h rfl) x
theorem kep_set01 {w : World} {g : Nat} (x y : Value) : Kep (fun b => b ≠ g) w ((w.setCell ⟨g, 0, none⟩ x).setCell ⟨g, 1, none⟩ y) := (kep_set0 x).trans (kep_set0 y)

section
variable {P : Program} {fn : Func} {t : TypeId} {d : TypeDesc}
theorem results_box1 {p : Tmp} (h : fn.results = #[.cell p t]) (hu : P.underlying t = some d) (hd : (match d with | .struct _ | .array _ _ => true | _ => false) = true) (hi : (P.info? t).map (·.size) = some 2) (tmps : Array Value) (w : World) (g : Nat) (a b : Value)
    (hp : tmps.getD p undef = .pointer (some ⟨g, 0, none⟩)) (hg : Two w g t a b) : (results fn tmps).run P w = .ok (.agg #[a, b]) w := by
  have hp' : tmps[p]?.getD undef = .pointer (some ⟨g, 0, none⟩) := by simpa using hp
  have hl := run_loadVar_row (P := P) w g t t _ (0, 0) d hg hu hd hi
  simp [results, h, hp', asAddr, hl]
theorem results_box2 {p u : Tmp} (h : fn.results = #[.cell p t, .tmp u]) (hu : P.underlying t = some d) (hd : (match d with | .struct _ | .array _ _ => true | _ => false) = true) (hi : (P.info? t).map (·.size) = some 2) (tmps : Array Value) (w : World) (g : Nat) (a b : Value)
    (hp : tmps.getD p undef = .pointer (some ⟨g, 0, none⟩)) (hg : Two w g t a b) : (results fn tmps).run P w = .ok (.tuple #[.agg #[a, b], tmps.getD u undef]) w := by
  have hp' : tmps[p]?.getD undef = .pointer (some ⟨g, 0, none⟩) := by simpa using hp
  have hl := run_loadVar_row (P := P) w g t t _ (0, 0) d hg hu hd hi
  simp [results, h, hp', asAddr, hl]
theorem results_box3 {p u v : Tmp} (h : fn.results = #[.cell p t, .tmp u, .tmp v]) (hu : P.underlying t = some d) (hd : (match d with | .struct _ | .array _ _ => true | _ => false) = true) (hi : (P.info? t).map (·.size) = some 2) (tmps : Array Value) (w : World) (g : Nat) (a b : Value)
    (hp : tmps.getD p undef = .pointer (some ⟨g, 0, none⟩)) (hg : Two w g t a b) : (results fn tmps).run P w = .ok (.tuple #[.agg #[a, b], tmps.getD u undef, tmps.getD v undef]) w := by
  have hp' : tmps[p]?.getD undef = .pointer (some ⟨g, 0, none⟩) := by simpa using hp
  have hl := run_loadVar_row (P := P) w g t t _ (0, 0) d hg hu hd hi
  simp [results, h, hp', asAddr, hl]
end
end Go.Proofs.Ytgacfihidpijeaa.MM
set_option linter.unusedVariables false
namespace Go.Proofs.Ytgacfihidpijeaa.EV
open Go Go.RowKit Go.Proofs.Ytgacfihidpijeaa.MM Go.Proofs.Ytgacfihidpijeaa.EM Go.Proofs.Ytgacfihidpijeaa.VM

theorem infoEv2 : (Try.prog.info? 24).map (·.size) = some 2 := by kernel_rfl
/-- A block of fields. -/
def IsF (w : World) (b : Nat) : Prop := ∃ cur fr, w.heap[b]? = some (.cells cur 68 fr)
/-- The blocks of fields that are new. -/
def NewF (w w' : World) (b : Nat) : Prop := w.heap.size ≤ b ∧ IsF w' b
theorem IsF.keep {S : Nat → Prop} {w w' : World} {b : Nat} (h : IsF w b) (hk : Kep S w w') (hb : S b) : IsF w' b := by
  obtain ⟨cur, fr, h⟩ := h
  exact ⟨cur, fr, (hk.block b (Array.getElem?_eq_some_iff.1 h).1 hb).trans h⟩
theorem IsF.lt {w : World} {b : Nat} (h : IsF w b) : b < w.heap.size := by obtain ⟨_, _, h⟩ := h; exact (Array.getElem?_eq_some_iff.1 h).1
/-- What an event taken leaves. -/
def EvTook (B g : Nat) (s : Ev × List UInt8 × Bool) (w : World) (e : Ending) (w' : World) : Prop :=
  ∃ u, e = .returned (.agg #[.int .i64 s.1.1, u]) ∧ ROn fldC (NewF w w') w' u s.1.2 ∧ Rd B w' g s.2.1 s.2.2 ∧ Kep (fun b => b ≠ g) w w'

set_option maxRecDepth 100000 in
set_option maxHeartbeats 2000000 in
theorem event_any (B g : Nat) (l : List UInt8) (o : Bool) (w : World) (h : Rd B w g l o) (hB : B ≤ g) : Calls Try.prog 48 #[.pointer (some ⟨g, 0, none⟩)] w (EvTook B g (evSt l o) w) := by
  have hmx : Try.prog.follows .mixedOrders = true := by kernel_rfl
  have hg := h.lt
  have hlen := evSt_len l o
  obtain ⟨z, l1, o1, ht⟩ : ∃ z l1 o1, timSt l o = (z, l1, o1) := ⟨_, _, _, rfl⟩
  obtain ⟨N, l2, o2, hn⟩ : ∃ N l2 o2, numSt 16 l1 o1 = (N, l2, o2) := ⟨_, _, _, rfl⟩
  have hN : N ≤ 16 := by have := num_le 16 l1 o1; rw [hn] at this; exact this
  have hst : evSt l o = ((z, (fldsN N ([], l2, o2)).1), (fldsN N ([], l2, o2)).2.1, (fldsN N ([], l2, o2)).2.2) := by
    unfold evSt
    rw [ht]
    dsimp only
    rw [hn]
  have HST := Lib.hid hst
  -- the result's block
  have hb0 : Below w.heap.size w (w.alloc (.cells #[.int .i64 0, .slice none 0 0] 24)) := (Below.refl _ _).alloc (Nat.le_refl _) _
  have hsz0 : (w.alloc (.cells #[.int .i64 0, .slice none 0 0] 24)).heap.size = w.heap.size + 1 := by simp
  have hr0 := h.keep (S := fun _ => True) (kep_below _ hb0) trivial (fun _ _ => trivial) (by omega)
  have HT := Lib.hid (time_any B g l o _ hr0 hB)
  rw [ht] at HT
  have HN := Lib.hid (fun W (h : Rd B W g l1 o1) => (show Calls Try.prog 54 #[.pointer (some ⟨g, 0, none⟩), .int .i64 16] W (Took B g (.int .i64 N) l2 o2 W) from by have := number_any B g 16 l1 o1 W (by omega) h hB; rw [hn] at this; exact this))
  have n0 := heap_alloc_new w (.cells #[.int .i64 0, .slice none 0 0] 24)
  clear h hst ht hn hr0
  go_enter Try.func48, Try.ntmps48
  go_wp2_with fail
  refine HT.out.mono ?_
  rintro e w1 ⟨rfl, hr1, hk1⟩
  have hs1 := hk1.size
  have a0 := (hk1.block w.heap.size (by simp) (by omega)).trans n0
  have hk01 : Kep (fun b => b ≠ g) w w1 := (kep_below _ hb0).trans hk1
  have HR1 := Lib.hid hr1
  have HK1 := Lib.hid hk01
  have A0 := Lib.hid a0
  rw [hsz0] at hs1
  clear hr1 hk1 n0 a0 hk01 hb0 hsz0 HT
  go_wp2_with fail
  obtain ⟨q, hq⟩ : ∃ q, w1.heap.size = q := ⟨_, rfl⟩
  rw [hq]
  have hqR : w.heap.size < q := by omega
  have n1 := heap_alloc_new w1 (.cells #[.int .i64 z, .slice none 0 0] 24)
  rw [hq] at n1
  have hka : Kep (fun b => b ≠ g) w1 (w1.alloc (.cells #[.int .i64 z, .slice none 0 0] 24)) := kep_alloc _ _ _
  have HN2 := Lib.hid (HN.out (w1.alloc (.cells #[.int .i64 z, .slice none 0 0] 24)) (HR1.out.keep (S := fun _ => True) (kep_alloc _ _ _) trivial (fun _ _ => trivial) (by omega)))
  have hsa : (w1.alloc (.cells #[.int .i64 z, .slice none 0 0] 24)).heap.size = q + 1 := by simp [hq]
  refine HN2.out.mono ?_
  rintro e w3 ⟨rfl, hr3, hk3⟩
  have b0 := (hk3.block q (by omega) (by omega)).trans n1
  have a3 := ((hka.trans hk3).block w.heap.size (by omega) (by omega)).trans A0.out
  have hs3 := hk3.size
  rw [hsa] at hs3
  have HR3 := Lib.hid hr3
  have HK3 := Lib.hid (HK1.out.trans (hka.trans hk3))
  have HA3 := Lib.hid a3
  have HB3 := Lib.hid b0
  have HO3 := Lib.hid (OwnX.nil_ (C := fldC) 68 (q + 1) (fun _ => False) w3)
  clear hr3 hk3 hka n1 b0 a3 HN HN2 A0 HK1 HR1 hsa hq
  go_wp2_with fail
  go_loopw [4, 10] (fun _ iv wr => ∃ (i : Nat) (u : Value), i ≤ N ∧ iv = .int .i64 i ∧ Hid (OwnX fldC 68 (q + 1) (fun _ => False) wr u (fldsN i ([], l2, o2)).1) ∧ Hid (wr.heap[q]? = some (.cells #[.int .i64 z, u] 24 (0, 0))) ∧ Hid (wr.heap[w.heap.size]? = some (.cells #[.int .i64 0, .slice none 0 0] 24 (0, 0))) ∧ Hid (Rd B wr g (fldsN i ([], l2, o2)).2.1 (fldsN i ([], l2, o2)).2.2) ∧ Hid (Kep (fun b => b ≠ g) w wr)) (fun _ iv _ => N - (intOf iv).toNat)
  case atStart => exact ⟨0, _, by omega, rfl, HO3, HB3, HA3, HR3, HK3⟩
  case round =>
    obtain ⟨i, u, hi, rfl, HO, HBX, HA, HR, HK⟩ := hrel
    clear HO3 HB3 HA3 HR3 HK3
    have hqw : q < wr.heap.size := (Array.getElem?_eq_some_iff.1 HBX.out).1
    have hlt9 := fldsN_len i ([], l2, o2)
    by_cases hlt : i < N
    · have q1 : decide ((i : Int) < (N : Int)) = true := by rw [decide_eq_true_eq]; omega
      obtain ⟨fs, li, oi, hsi⟩ : ∃ fs li oi, fldsN i ([], l2, o2) = (fs, li, oi) := ⟨_, _, _, rfl⟩
      obtain ⟨s1, l3, o3, ht1⟩ : ∃ s1 l3 o3, txtSt 32 li oi = (s1, l3, o3) := ⟨_, _, _, rfl⟩
      obtain ⟨s2, l4, o4, ht2⟩ : ∃ s2 l4 o4, txtSt 4096 l3 o3 = (s2, l4, o4) := ⟨_, _, _, rfl⟩
      have hnx : fldsN (i + 1) ([], l2, o2) = (fs ++ [(s1, s2)], l4, o4) := by
        rw [fldsN, hsi]
        unfold stepF
        dsimp only
        rw [ht1]
        dsimp only
        rw [ht2]
      rw [hsi] at HO HR hlt9
      have hfl : fs.length ≤ 16 := by simp at hlt9; omega
      have HNX := Lib.hid hnx
      have HT1 := Lib.hid (text_any B g 32 li oi wr (by omega) (by omega) HR.out hB)
      rw [ht1] at HT1
      have HT2 := Lib.hid (fun W (h : Rd B W g l3 o3) => (show Calls Try.prog 70 #[.pointer (some ⟨g, 0, none⟩), .int .i64 4096] W (Took B g (.string ⟨s2.toArray⟩) l4 o4 W) from by have := text_any B g 4096 l3 o3 W (by omega) (by omega) h hB; rw [ht2] at this; exact this))
      have HLT := Lib.hid hlt
      clear hsi ht1 ht2 hnx hlt hlt9 HR
      go_wp2_with fail
      refine HT1.out.mono ?_
      rintro e w4 ⟨rfl, hr4, hk4⟩
      have hs4 := hk4.size
      have HO4 := Lib.hid (HO.out.keep hk4 (fun _ _ h => h.elim) (fun k hk => by have := (HO.out.cells hk).1; omega))
      have HBX4 := Lib.hid ((hk4.block q hqw (by omega)).trans HBX.out)
      have HA4 := Lib.hid ((hk4.block w.heap.size (by omega) (by omega)).trans HA.out)
      have HR4 := Lib.hid hr4
      have HK4 := Lib.hid (HK.out.trans hk4)
      clear hr4 hk4 HT1 HO HBX HA HK
      go_wp2_with fail
      refine RS.begin_ (T := fun b => b ≠ g ∧ u.ownBlock ≠ some b) [(0, true), (1, true), (2, true), (3, true), (4, false), (5, true), (6, false), (7, false), (8, true)] hmx (by kernel_rfl) (fun _ _ d _ _ h => by cases d <;> exact h) ?_
      simp only [RS.ordered, List.map_cons, List.map_nil, List.getElem?_toArray, List.getElem?_cons_succ, List.getElem?_cons_zero]
      have hub : u.ownBlock ≠ some q := fun e => by have := (HO4.out.cells e).1; omega
      have hug : u.ownBlock ≠ some g := fun e => by have := (HO4.out.cells e).1; omega
      have huR : u.ownBlock ≠ some w.heap.size := fun e => by have := (HO4.out.cells e).1; omega
      obtain ⟨wd, hwd⟩ : ∃ wd, w4.drew = wd := ⟨_, rfl⟩
      have hkd : Kep (fun _ => True) w4 wd := by rw [← hwd]; exact kep_draw _ _
      have hsd : w4.heap.size = wd.heap.size := by rw [← hwd]; rfl
      have c1 : wd.cell? ⟨q, 1, none⟩ = some u := by rw [cell_of_row wd q 1 _ _ _ ((hkd.block q (by omega) trivial).trans HBX4.out)]; rfl
      have G := Lib.hid (fun W (hW : Kep (fun b => b ≠ g ∧ u.ownBlock ≠ some b) wd W) => (show W.cell? ⟨q, 1, none⟩ = some u from (hW.cell (by omega) ⟨by omega, hub⟩ 1).trans c1))
      have HOd := Lib.hid (HO4.out.keep hkd (fun _ _ _ => trivial) (fun _ _ => trivial))
      have HBd := Lib.hid ((hkd.block q (by omega) trivial).trans HBX4.out)
      have HAd := Lib.hid ((hkd.block w.heap.size (by omega) trivial).trans HA4.out)
      have HRd := Lib.hid (HR4.out.keep hkd trivial (fun _ _ => trivial) (by omega))
      have HKd := Lib.hid (HK4.out.trans (hkd.mono fun _ _ => trivial))
      rw [hwd]
      clear hwd hkd c1 HO4 HBX4 HA4 HR4 HK4
      repeat (refine RS.take (by rfl) (by intro W hW; have f1 := G.out W hW; go_simp; with_reducible rfl) ?_; simp only [Act.put, List.setIfInBounds_toArray, List.set_cons_zero, List.set_cons_succ])
      refine RS.alone (by rfl) (fun K hK => ?_)
      go_simp
      refine (HT2.out wd HRd.out).mono ?_
      rintro e w5 ⟨rfl, hr5, hk5⟩
      go_simp
      refine hK.out _ _ (hk5.mono fun _ h => h.1) ?_
      clear hK K
      have hs5 := hk5.size
      have HO5 := Lib.hid (HOd.out.keep hk5 (fun _ _ h => h.elim) (fun k hk => by have := (HOd.out.cells hk).1; omega))
      have HB5 := Lib.hid ((hk5.block q (by omega) (by omega)).trans HBd.out)
      have HA5 := Lib.hid ((hk5.block w.heap.size (by omega) (by omega)).trans HAd.out)
      have HR5 := Lib.hid hr5
      have HK5 := Lib.hid (HKd.out.trans hk5)
      clear hr5 hk5 G HOd HBd HAd HRd HKd HT2
      repeat (refine RS.take (by rfl) (by intro W hW; go_simp; with_reducible rfl) ?_; simp only [Act.put, List.setIfInBounds_toArray, List.set_cons_zero, List.set_cons_succ])
      refine RS.alone (by rfl) (fun K hK => ?_)
      go_simp
      refine hK.out _ _ (kep_alloc _ _ _) ?_
      clear hK K
      refine RS.alone (by rfl) (fun K hK => ?_)
      refine wp_append_x1 fldE _ _ rfl (q + 1) u fs w5 [.string ⟨s1.toArray⟩, .string ⟨s2.toArray⟩] (s1, s2) rfl rfl HO5.out (fun _ _ h => h.elim) (fld_on.2 rfl) rfl (by unfold maxLen; omega) (by omega) (by omega) ?_
      intro v6 w6 ho6 hb6 hk6 hv6
      obtain ⟨g6, c6, rfl⟩ := hv6
      refine hK.out _ _ (hk6.mono fun _ h => h.2) ?_
      clear hK K
      have hka : Kep (fun b => u.ownBlock ≠ some b) w5 w6 := (kep_alloc _ _ _).trans hk6
      have HO6 := Lib.hid ho6
      have B6 := (hka.block q (by omega) hub).trans HB5.out
      have HB6 := Lib.hid B6
      have HA6 := Lib.hid ((hka.block w.heap.size (by omega) huR).trans HA5.out)
      have HR6 := Lib.hid (HR5.out.keep hka hug (fun k hk e => by have := (HO5.out.cells e).1; omega) (by omega))
      have HK6 := Lib.hid (HK5.out.andThen hka (fun k hk _ e => by have := (HO5.out.cells e).1; omega))
      have hs6 := hka.size
      clear hka ho6 hb6 hk6 HO5 HB5 HA5 HR5 HK5
      repeat (refine RS.take (by rfl) (by intro W hW; go_simp; with_reducible rfl) ?_; simp only [Act.put, List.setIfInBounds_toArray, List.set_cons_zero, List.set_cons_succ])
      refine RS.done ?_
      simp only [List.length_cons, List.length_nil, List.drop_succ_cons, List.drop_zero, Nat.zero_add, Nat.reduceAdd]
      obtain ⟨k0, k1, k2, k3, _, _⟩ := Two.all (show Two w6 q 24 (.int .i64 z) u from B6) (.int .i64 z)
      have hkb : Kep (fun b => b ≠ q) w6 (w6.setCell ⟨q, 1, none⟩ (.slice (some ⟨g6, 0, none⟩) (fs.length + 1) c6)) := kep_set0 _
      have HO7 := Lib.hid (HO6.out.keep hkb (fun _ _ h => h.elim) (fun k hk => by have := (HO6.out.cells hk).1; omega))
      have HB7 := Lib.hid (show (w6.setCell ⟨q, 1, none⟩ (.slice (some ⟨g6, 0, none⟩) (fs.length + 1) c6)).heap[q]? = some (.cells #[.int .i64 z, .slice (some ⟨g6, 0, none⟩) (fs.length + 1) c6] 24 (0, 0)) from heap_setCell_same w6 q 1 _ _ _ HB6.out)
      have HA7 := Lib.hid ((hkb.block w.heap.size (by omega) (by omega)).trans HA6.out)
      have HR7 := Lib.hid (HR6.out.keep hkb (by omega) (fun k hk => by omega) (by omega))
      have HK7 := Lib.hid (HK6.out.andThen hkb (fun k hk _ => by omega))
      have HOr : Hid (OwnX fldC 68 (q + 1) (fun _ => False) (w6.setCell ⟨q, 1, none⟩ (.slice (some ⟨g6, 0, none⟩) (fs.length + 1) c6)) (.slice (some ⟨g6, 0, none⟩) (fs.length + 1) c6) (fldsN (i + 1) ([], l2, o2)).1) := Lib.hid (by rw [HNX.out]; exact HO7.out)
      have HRr : Hid (Rd B (w6.setCell ⟨q, 1, none⟩ (.slice (some ⟨g6, 0, none⟩) (fs.length + 1) c6)) g (fldsN (i + 1) ([], l2, o2)).2.1 (fldsN (i + 1) ([], l2, o2)).2.2) := Lib.hid (by rw [HNX.out]; exact HR7.out)
      clear hkb B6 HO6 HB6 HA6 HR6 HK6 HO7 HR7 HNX
      go_wp2_with fail
      have hlt := HLT.out
      go_roundw
      case rel => exact ⟨i + 1, _, by omega, by go_num, HOr, HB7, HA7, HRr, HK7⟩
      case measure => simp [intOf]; omega
    · obtain rfl : i = N := by omega
      have q1 : decide ((i : Int) < (i : Int)) = false := by simp
      obtain ⟨k0, k1, _, _, _, _⟩ := Two.all (show Two wr q 24 (.int .i64 z) u from HBX.out) (.int .i64 z)
      obtain ⟨m0, m1, m2, m3, m4, m5⟩ := Two.all (show Two wr w.heap.size 24 (.int .i64 0) (.slice none 0 0) from HA.out) (.int .i64 z)
      have HX := Lib.hid (Two.s01 (show Two wr w.heap.size 24 (.int .i64 0) (.slice none 0 0) from HA.out) (.int .i64 z) u)
      have hkb : Kep (fun b => b ≠ w.heap.size) wr ((wr.setCell ⟨w.heap.size, 0, none⟩ (.int .i64 z)).setCell ⟨w.heap.size, 1, none⟩ u) := kep_set01 _ _
      have HQ : Hid (EvTook B g (evSt l o) w (.returned (.agg #[.int .i64 z, u])) ((wr.setCell ⟨w.heap.size, 0, none⟩ (.int .i64 z)).setCell ⟨w.heap.size, 1, none⟩ u)) := Lib.hid (by
        rw [HST.out]
        refine ⟨u, rfl, ?_, HR.out.keep hkb (by omega) (fun k hk => by omega) (by omega), HK.out.andThen hkb (fun k hk _ => by omega)⟩
        have hok := HO.out.keep hkb (fun _ _ h => h.elim) (fun k hk => by have := (HO.out.cells hk).1; omega)
        exact hok.ron (fun k hk => ⟨by have := (HO.out.cells hk).1; omega, (hok.cells hk).2.2⟩) (fun _ _ h => h.elim))
      obtain ⟨pu, cu, hu, _⟩ := (OwnX.any HO.out).shape
      rw [hu] at k1 HX HQ
      clear hkb HO HBX HA HR HK hlt HST hlt9
      go_wp2_with fail
      refine bodyPost_ret (results_box1 rfl Try.underlying24 rfl infoEv2 _ _ w.heap.size _ _ rfl HX.out) rfl HQ.out
end Go.Proofs.Ytgacfihidpijeaa.EV
