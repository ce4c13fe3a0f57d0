/-
  An event's bytes behind others: the code's Put. Condition: the others are fewer than 10^9 bytes. An event's bytes: the reference's. Conditions: 16 fields, texts of 4096 bytes at most. A batch's bytes: the code's Encode. Condition: the events' times are whole numbers of 64 bits. Get, the code's and the reference's: what is got of the bytes, as the plain lists say. The reference's Get: what is got of the bytes, as the plain lists say.
-/
import Derived.Test.YtgacfihidpijeaaZE16
import Derived.Test.YtgacfihidpijeaaZE15
import Derived.Test.YtgacfihidpijeaaZE14
import Derived.Test.YtgacfihidpijeaaZE1
import Derived.Test.YtgacfihidpijeaaZE3
import Derived.Lib.VarintBits
import Derived.Laws.BitsAllLaws
set_option linter.unusedVariables false
namespace Go.Proofs.Ytgacfihidpijeaa.EV
open Go Go.RowKit Go.Proofs.Ytgacfihidpijeaa.MM Go.Proofs.Ytgacfihidpijeaa.EM Go.Proofs.Ytgacfihidpijeaa.VM Go.Proofs.Ytgacfihidpijeaa.GB
open Go.Proofs.Ytgacfihidpijeaa.VP

/-- What Put is. -/
def putB (l : List UInt8) (e : Ev) : List UInt8 := if checkE e = 0 then l ++ bytesE e else []
/-- A row of bytes and an error's number. -/
def CodeLeft (l : List UInt8) (x : Int) (w : World) (e : Ending) (w' : World) : Prop := ∃ v, e = .returned (.tuple #[v, .int .i64 x]) ∧ OwnB w.heap.size w' v l ∧ Below w.heap.size w w'
theorem own_none (B : Nat) (w : World) : OwnB B w (.slice none 0 0) [] := World.ownsRow_nil _ _ _ _
theorem low_grown {w w' : World} {v' : Value} (h : Grown w w' (.slice none 0 0) v') : Below w.heap.size w w' ∧ ∀ k, v'.ownBlock = some k → w.heap.size ≤ k :=
  ⟨h.kep.below (Nat.le_refl _) (fun k _ e => by cases e), fun k hk => (h.2 k hk).elim (fun e => by cases e) id⟩

set_option maxRecDepth 100000 in
set_option maxHeartbeats 1000000 in
theorem cput_any (v : Value) (l : List UInt8) (z : Int) (u : Value) (fs : List Fld) (w : World) (hv : BRow w v l) (hl : l.length ≤ 1000000000) (hr : RAny fldC w u fs) (h0 : -9223372036854775808 ≤ z) (h1 : z ≤ 9223372036854775807) :
    Calls Try.prog 26 #[v, .agg #[.int .i64 z, u]] w (CodeLeft (putB l (z, fs)) (checkE (z, fs)) w) := by
  obtain ⟨pv, cv, rfl, _⟩ := hv.shape
  have hbx := box_below w z u
  have HC := Lib.hid (check_any z u fs _ (RAny.below hr hbx))
  obtain ⟨L, hL⟩ : ∃ L, putB l (z, fs) = L := ⟨_, rfl⟩
  obtain ⟨c, hc⟩ : ∃ c, checkE (z, fs) = c := ⟨_, rfl⟩
  rw [hc] at HC
  rw [hL, hc]
  have HR := Lib.hid hr
  have HV := Lib.hid hv
  by_cases hz : c = 0
  · subst hz
    have hok := (checkE_ok.1 hc)
    have h16 : fs.length ≤ 16 := hok.1
    have hx : ∀ f ∈ fs, f.1.length ≤ 4096 ∧ f.2.length ≤ 4096 := fun f hf => ⟨Nat.le_trans (name_len (hok.2 f hf).1) (by omega), (hok.2 f hf).2⟩
    have hLe : L = l ++ bytesE (z, fs) := by rw [← hL]; unfold putB; rw [if_pos hc]
    have hfl := fits fs.length [] fs z h16 hx (by simp) fs.length
    have hbl : (bytesE (z, fs)).length ≤ 1001000000 := by
      rw [List.take_length, List.nil_append] at hfl
      exact hfl
    have HA := Lib.hid (fun W (h : RAny fldC W u fs) => appe_any (.slice none 0 0) [] z u fs W (own_none 0 W) (h.weak fun b _ _ e => by cases e) h0 h1 h16 hx (by simp))
    have HBL := Lib.hid hbl
    have HLE := Lib.hid hLe
    clear hr hv hok hx hLe hfl hbl hc hbx hL
    go_enter Try.func26, Try.ntmps26
    go_wp2_with fail
    refine HC.out.mono ?_
    rintro e w1 ⟨rfl, hb1⟩
    obtain ⟨c0, c1, hb01⟩ := box_in hb1
    have HB1 := Lib.hid hb01
    have HA1 := Lib.hid (HA.out _ (RAny.below HR.out hb01))
    clear hb1 hb01 HA HC
    go_wp2_with fail
    refine HA1.out.mono ?_
    rintro e w2 ⟨v2, rfl, ho2, hg2⟩
    obtain ⟨hb2, hk2⟩ := low_grown hg2
    rw [List.nil_append] at ho2
    have hb02 := HB1.out.trans (hb2.mono HB1.out.size)
    have HB2 := Lib.hid hb02
    have HRow := Lib.hid (lrow_two (HV.out.below hb02) ho2.brow)
    obtain ⟨p2, c2, rfl, _⟩ := ho2.brow.shape
    clear ho2 hg2 hb2 hk2 hb02 HA1
    go_wp2_with fail
    have HQ := Lib.hid (concat_any _ [l, bytesE (z, fs)] _ HRow.out (by simp; have := HBL.out; omega))
    refine HQ.out.mono ?_
    rintro e w3 ⟨v3, rfl, ho3, hb3⟩
    have ho3' : OwnB w.heap.size w3 v3 L := by
      rw [HLE.out]
      have := OwnB.weaken ho3 (B' := w.heap.size) (Nat.le_trans HB2.out.size (by simp))
      simpa using this
    have HO3 := Lib.hid ho3'
    have HB3 := Lib.hid ((HB2.out.alloc HB2.out.size _).trans (hb3.mono (Nat.le_trans HB2.out.size (by simp))))
    clear ho3 hb3 ho3' HQ
    go_wp2_with fail
    go_ret2
    exact ⟨_, rfl, HO3.out, HB3.out⟩
  · have t0 : (c != 0) = true := by rw [bne_iff_ne]; exact hz
    have hLe : L = [] := by rw [← hL]; unfold putB; rw [if_neg (by rw [hc]; exact hz)]
    subst hLe
    clear hr hv hL hc hbx
    go_enter Try.func26, Try.ntmps26
    go_wp2_with fail
    refine HC.out.mono ?_
    rintro e w1 ⟨rfl, hb1⟩
    obtain ⟨c0, c1, hb01⟩ := box_in hb1
    have HB1 := Lib.hid hb01
    clear hb1 hb01 HC
    go_wp2_with fail
    go_ret2
    exact ⟨_, rfl, own_none _ _, HB1.out⟩
end Go.Proofs.Ytgacfihidpijeaa.EV
set_option linter.unusedVariables false
namespace Go.Proofs.Ytgacfihidpijeaa.EV
open Go Go.RowKit Go.Proofs.Ytgacfihidpijeaa.MM Go.Proofs.Ytgacfihidpijeaa.EM Go.Proofs.Ytgacfihidpijeaa.VM Go.Proofs.Ytgacfihidpijeaa.GB
open Go.Proofs.Ytgacfihidpijeaa.VP

theorem rtext0 (t : List UInt8) (ht : t.length ≤ 4096) (W : World) : Calls Try.prog 47 #[.string ⟨t.toArray⟩] W (PutLeft W.heap.size (textL t) W) := by
  have h := rtext_any ⟨t.toArray⟩ W (by rw [str_sz]; omega)
  rw [str_list] at h
  exact h
theorem grown_low {B : Nat} {wr w' : World} {u u' : Value} {L L' : List UInt8} (hB : B ≤ wr.heap.size) (ho : OwnB B wr u L) (hg : Grown wr w' u u') (ho' : OwnB 0 w' u' L') : OwnB B w' u' L' ∧ Below B wr w' := by
  have h1 : ∀ k, u.ownBlock = some k → B ≤ k := fun k hk => (World.ownsRow.lt ho k hk).1
  refine ⟨OwnB.from ho' fun k hk => ?_, hg.kep.below hB fun k hk e => by have := h1 k e; omega⟩
  rcases hg.2 k hk with e | e
  · exact h1 k e
  · omega

set_option maxRecDepth 100000 in
set_option maxHeartbeats 1000000 in
theorem rbytese_any (z : Int) (u : Value) (fs : List Fld) (w : World) (hr : RAny fldC w u fs) (h0 : -9223372036854775808 ≤ z) (h1 : z ≤ 9223372036854775807) (h16 : fs.length ≤ 16) (hx : ∀ f ∈ fs, f.1.length ≤ 4096 ∧ f.2.length ≤ 4096) :
    Calls Try.prog 27 #[.agg #[.int .i64 z, u]] w (PutLeft w.heap.size (bytesE (z, fs)) w) := by
  have hmx : Try.prog.follows .mixedOrders = true := by kernel_rfl
  obtain ⟨p, cap, rfl, hlc, hcm, _⟩ := hr.shape
  unfold maxLen at hcm
  obtain ⟨wb, hwb⟩ : ∃ wb, evBox w z (.slice p fs.length cap) = wb := ⟨_, rfl⟩
  have hbx := box_below w z (.slice p fs.length cap)
  have hszb := box_size w z (.slice p fs.length cap)
  have hin := fun W (h : Below wb.heap.size wb W) => box_in (w := w) (wr := W) (z := z) (v := .slice p fs.length cap) (by rw [hwb]; exact h)
  rw [hwb] at hbx hszb
  have HLN := Lib.hid (fits fs.length [] fs z h16 hx (by simp))
  have HX := Lib.hid hx
  have HR := Lib.hid hr
  have HBX := Lib.hid hbx
  have HIN := Lib.hid hin
  have HWB := Lib.hid hwb
  have HEND : Hid (intL z ++ bytesL fs.length ++ bytesF (fs.take fs.length) = bytesE (z, fs)) := Lib.hid (by rw [List.take_length]; unfold bytesE; simp)
  clear hr hx hbx hin
  go_enter Try.func27, Try.ntmps27
  go_wp2_with fail
  refine RK.begin_ (T := fun k => k < wb.heap.size) [(0, true), (1, true), (3, true), (4, true), (5, true), (6, true), (2, false), (7, false), (8, false), (9, true)] (by kernel_rfl) (by kernel_rfl) rfl (by kernel_rfl) (fun _ _ d _ _ h => by cases d <;> exact h) ?_
  simp only [RK.ordered, List.map_cons, List.map_nil, List.getElem?_toArray, List.getElem?_cons_succ, List.getElem?_cons_zero]
  change RK.walk _ _ _ _ _ _ (evBox w z (.slice p fs.length cap)).drew
  rw [HWB.out]
  obtain ⟨wd, hwd⟩ : ∃ wd, wb.drew = wd := ⟨_, rfl⟩
  have hbd : Below wb.heap.size wb wd := by rw [← hwd]; exact (Below.refl _ _).drew
  have hcc := HIN.out _ hbd
  have hsd := hbd.size
  have G := Lib.hid (fun W (hW : Kep (fun k => k < wb.heap.size) wd W) => (show W.cell? ⟨w.heap.size, 0, none⟩ = some (.int .i64 z) ∧ W.cell? ⟨w.heap.size, 1, none⟩ = some (.slice p fs.length cap) from
    ⟨(hW.cell (by omega) (by omega) 0).trans hcc.1, (hW.cell (by omega) (by omega) 1).trans hcc.2.1⟩))
  have HBD := Lib.hid hbd
  have HSZ := Lib.hid hszb
  clear hszb
  rw [hwd]
  clear hwd hbd hcc
  repeat (refine RK.take (by rfl) (by intro W hW; obtain ⟨f1, f2⟩ := G.out W hW; go_simp; with_reducible rfl) ?_; simp only [Act.put, List.setIfInBounds_toArray, List.set_cons_zero, List.set_cons_succ])
  have K1 := Lib.hid (rint_any z wd h0 h1)
  refine RK.alone (by rfl) (fun K hK => ?_)
  go_simp
  refine K1.out.mono ?_
  rintro e w1 ⟨v1, rfl, ho1, hb1⟩
  go_simp
  refine hK.out _ _ (kep_below _ hb1) ?_
  clear hK K K1
  have hs1 : wb.heap.size ≤ w1.heap.size := Nat.le_trans hsd hb1.size
  have HO1 := Lib.hid (OwnB.weaken ho1 hsd)
  have HB1 := Lib.hid (HBD.out.trans (hb1.mono hsd))
  clear ho1 hb1
  have K2 := Lib.hid (rbytes_any fs.length w1 (by omega))
  refine RK.alone (by rfl) (fun K hK => ?_)
  go_simp
  rw [show IntKind.u64.wrap (fs.length : Int) = (fs.length : Int) by rw [IntKind.wrap_u64]; omega]
  refine K2.out.mono ?_
  rintro e w2 ⟨v2, rfl, ho2, hb2⟩
  go_simp
  refine hK.out _ _ (kep_below _ hb2) ?_
  clear hK K K2
  have hs2 : wb.heap.size ≤ w2.heap.size := Nat.le_trans hs1 hb2.size
  have HO2 := Lib.hid (HO1.out.keep hb2)
  have HO3 := Lib.hid ho2
  have HB2 := Lib.hid (HB1.out.trans (hb2.mono hs1))
  clear ho2 hb2
  refine RK.alone (by rfl) (fun K hK => ?_)
  refine wp_append_grown _ _ rfl v1 (intL z) rfl (GB.OwnB.zero HO2.out) _ (bytesL fs.length) rfl HO3.out.brow (bytesL_ne _) (by have := HLN.out 0; simp only [List.length_append] at this; omega) ?_
  intro v3 w3 ho3 hg3
  refine hK.out _ _ (hg3.kep.mono fun k hk e => absurd (World.ownsRow.lt HO2.out k e).1 (Nat.not_le.2 hk)) ?_
  clear hK K
  obtain ⟨ho4, hb4⟩ := grown_low hs2 HO2.out hg3 ho3
  have HO4 : Hid (OwnB wb.heap.size w3 v3 (intL z ++ bytesL fs.length ++ bytesF (fs.take 0))) := Lib.hid (by rw [show intL z ++ bytesL fs.length ++ bytesF (fs.take 0) = intL z ++ bytesL fs.length by simp [EM.bytesF]]; exact ho4)
  have HB4 := Lib.hid (HB2.out.trans hb4)
  clear ho3 hg3 ho4 hb4 HO1 HO2 HO3 HB1 HB2
  repeat (refine RK.take (by rfl) (by intro W hW; go_simp; with_reducible rfl) ?_; simp only [Act.put, List.setIfInBounds_toArray, List.set_cons_zero, List.set_cons_succ])
  refine RK.done ?_
  clear G hsd HBD hs1 hs2
  go_wp2_with fail
  go_loopw [3, 4] (fun bv iv wr => ∃ k : Nat, k ≤ fs.length ∧ iv = .int .i64 k ∧ Hid (OwnB wb.heap.size wr bv (intL z ++ bytesL fs.length ++ bytesF (fs.take k))) ∧ Hid (Below wb.heap.size wb wr)) (fun _ iv _ => fs.length - (intOf iv).toNat)
  case atStart => exact ⟨0, by omega, rfl, HO4, HB4⟩
  case round =>
    obtain ⟨k, hk, rfl, HOk, HBk⟩ := hrel
    clear HO4 HB4
    obtain ⟨d0, d1, hbw⟩ := HIN.out _ HBk.out
    have hsr := HBk.out.size
    by_cases hlt : k < fs.length
    · have q1 : decide ((k : Int) < (fs.length : Int)) = true := by rw [decide_eq_true_eq]; omega
      have q2 : decide (k < fs.length) = true := by rw [decide_eq_true_eq]; omega
      have q3 : (k : Int) < (fs.length : Int) := by omega
      obtain ⟨b, off, rfl, hbl, _, c1, c2⟩ := fld_at HR.out hlt
      have e1 := (hbw.cell (p := ⟨b, off + k * 2, none⟩) hbl).trans c1
      have HC2 := Lib.hid c2
      have hxk := HX.out fs[k] (List.getElem_mem hlt)
      have hnx := bytesF_next hlt
      have hll := HLN.out (k + 1)
      rw [hnx, List.nil_append] at hll
      generalize fs[k].1 = nm at *
      generalize fs[k].2 = tx at *
      have hn2 : intL z ++ bytesL fs.length ++ bytesF (fs.take (k + 1)) = intL z ++ bytesL fs.length ++ bytesF (fs.take k) ++ textL nm ++ textL tx := by rw [hnx]; simp
      obtain ⟨L, hL⟩ : ∃ L, intL z ++ bytesL fs.length ++ bytesF (fs.take k) = L := ⟨_, rfl⟩
      have hlen : (L ++ textL nm ++ textL tx).length ≤ 1001000000 := by rw [← hL]; simp only [List.length_append] at hll ⊢; omega
      rw [hL] at hn2
      have ho := HOk.out
      rw [hL] at ho
      have HOL0 := Lib.hid ho
      have HN2 := Lib.hid hn2
      have HT1 := Lib.hid (rtext0 nm hxk.1 wr)
      have HT2 := Lib.hid (fun W => rtext0 tx hxk.2 W)
      have HLT := Lib.hid hlt
      have HBW := Lib.hid hbw
      clear hnx hll hL ho hn2 HOk hlt c1 c2 hbw
      go_wp2_with fail
      refine HT1.out.mono ?_
      rintro e w5 ⟨v5, rfl, ho5, hb5⟩
      have HO5 := Lib.hid ho5
      have HV5 := Lib.hid (HOL0.out.keep hb5)
      have hb15 := HBk.out.trans (hb5.mono hsr)
      have HB5 := Lib.hid hb15
      have hsr5 := hb15.size
      clear ho5 hb5 hb15 HT1 HBk d0 d1 e1 HBW HOL0
      go_wp2_with (at_builtin; go_loud (refine wpList_append_bytes rfl _ _ rfl wb.heap.size u3 L rfl HV5.out _ (textL nm) rfl HO5.out.brow (by simp only [List.length_append] at hlen; omega) hsr5 ?_; intro v6 w6 ho6 hb6; have HO6 := Lib.hid ho6; have hb16 := HB5.out.trans hb6; have HB6 := Lib.hid hb16; have hsr6 := hb16.size; obtain ⟨d0, d1, hbw⟩ := HIN.out _ hb16; have e2 := (hbw.cell (p := ⟨b, off + k * 2 + 1, none⟩) hbl).trans HC2.out; clear ho6 hb6 hb16 hbw))
      refine (HT2.out _).mono ?_
      rintro e w7 ⟨v7, rfl, ho7, hb7⟩
      have HO7 := Lib.hid ho7
      have HV7 := Lib.hid (HO6.out.keep hb7)
      have hb17 := HB6.out.trans (hb7.mono hsr6)
      have HB7 := Lib.hid hb17
      have hsr7 := hb17.size
      clear ho7 hb7 hb17 HT2 d0 d1 e2 HO6 HB6 HB5 HO5 HV5
      go_wp2_with (at_builtin; go_loud (refine wpList_append_bytes rfl _ _ rfl wb.heap.size v6 (L ++ textL nm) rfl HV7.out _ (textL tx) rfl HO7.out.brow (by simp only [List.length_append] at hlen; simp only [List.length_append]; omega) hsr7 ?_; intro v8 w8 ho8 hb8; rw [← HN2.out] at ho8; have HO8 := Lib.hid ho8; have HB8 := Lib.hid (HB7.out.trans hb8); clear ho8 hb8))
      have hlt := HLT.out
      go_roundw
      case rel => exact ⟨k + 1, by omega, by go_num, HO8, HB8⟩
      case measure => simp [intOf]; omega
    · obtain rfl : k = fs.length := by omega
      have q1 : decide ((fs.length : Int) < (fs.length : Int)) = false := by simp
      have q2 : decide (fs.length < fs.length) = false := by simp
      have ho := HOk.out
      rw [HEND.out] at ho
      have HO9 := Lib.hid (OwnB.weaken ho (show w.heap.size ≤ wb.heap.size by rw [HSZ.out]; exact Nat.le_succ _))
      have HB9 := Lib.hid hbw
      clear HOk ho hlt hbw d0
      go_wp2_with fail
      go_ret
      exact ⟨_, rfl, HO9.out, HB9.out⟩
end Go.Proofs.Ytgacfihidpijeaa.EV
set_option linter.unusedVariables false
namespace Go.Proofs.Ytgacfihidpijeaa.EV
open Go Go.RowKit Go.Proofs.Ytgacfihidpijeaa.MM Go.Proofs.Ytgacfihidpijeaa.EM Go.Proofs.Ytgacfihidpijeaa.VM Go.Proofs.Ytgacfihidpijeaa.GB
open Go.Proofs.Ytgacfihidpijeaa.VP

/-- What Encode is. -/
def encR (b : Bat) : List UInt8 := if checkB b = 0 then encB b else []
theorem ok_bytes {e : Ev} (h : checkE e = 0) : e.2.length ≤ 16 ∧ (∀ f ∈ e.2, f.1.length ≤ 4096 ∧ f.2.length ≤ 4096) ∧ (bytesE e).length ≤ 140000 := by
  have hok := checkE_ok.1 h
  have h1 := (bytesE_len e).1
  have h2 := sizeF_of_ok hok.2
  have h3 := hok.1
  refine ⟨h3, fun f hf => ⟨Nat.le_trans (name_len (hok.2 f hf).1) (by omega), (hok.2 f hf).2⟩, ?_⟩
  have h4 : 4128 * e.2.length ≤ 4128 * 16 := Nat.mul_le_mul_left _ h3
  omega
theorem bytesB_le : ∀ {es : List Ev}, (∀ e ∈ es, checkE e = 0) → (bytesB es).length ≤ 140000 * es.length
  | [], _ => by simp [bytesB]
  | e :: r, h => by
    have h1 := (ok_bytes (h e (by simp))).2.2
    have h2 := bytesB_le (es := r) fun g hg => h g (List.mem_cons_of_mem _ hg)
    rw [bytesB_cons, List.length_append, List.length_cons]
    omega
/-- Each beginning's bytes are few. -/
theorem enc_fits (m n : Nat) {es : List Ev} (h : ∀ e ∈ es, checkE e = 0) (h64 : es.length ≤ 64) : ∀ k, (bytesL m ++ bytesL n ++ bytesB (es.take k)).length ≤ 9000000 := fun k => by
  have h1 := (bytesL_length m).2
  have h2 := (bytesL_length n).2
  have h3 := bytesB_le (es := es.take k) fun e he => h e (List.mem_of_mem_take he)
  have h4 : (es.take k).length ≤ es.length := List.length_take_le' _ _
  have h5 : 140000 * (es.take k).length ≤ 140000 * 64 := Nat.mul_le_mul_left _ (by omega)
  simp only [List.length_append]
  omega

set_option maxRecDepth 100000 in
set_option maxHeartbeats 2000000 in
theorem cencode_any (seq : Int) (v : Value) (es : List Ev) (w : World) (hr : RAny evC w v es) (hf : ∀ e ∈ es, FitE e) :
    Calls Try.prog 31 #[.agg #[.int .i64 seq, v]] w (CodeLeft (encR (seq, es)) (checkB (seq, es)) w) := by
  have hbx := btbox_below w seq v
  have hck := cbatch_any seq v es _ (RAny.below hr hbx)
  obtain ⟨p, cap, rfl, hlc, hcm, _⟩ := hr.shape
  unfold maxLen at hcm
  obtain ⟨c, hc⟩ : ∃ c, checkB (seq, es) = c := ⟨_, rfl⟩
  rw [hc] at hck
  have HCK := Lib.hid hck
  obtain ⟨X, hX⟩ : ∃ X, encR (seq, es) = X := ⟨_, rfl⟩
  rw [hX, hc]
  have HBX := Lib.hid hbx
  by_cases h0 : c = 0
  · subst h0
    obtain ⟨hl1, hl64, hall, _, hs1, hs2⟩ := checkB_ok hc
    have hl64 : es.length ≤ 64 := hl64
    have hs1 : 1 ≤ seq := hs1
    have hs2 : seq ≤ 1099511627776 := by have : seq ≤ 1099511627776 - ((es.length : Int) - 1) := hs2; omega
    obtain ⟨m, rfl⟩ : ∃ m : Nat, seq = (m : Int) := ⟨seq.toNat, by omega⟩
    have hXe : X = bytesL m ++ bytesL es.length ++ bytesB es := by rw [← hX]; unfold encR; rw [if_pos hc]; rfl
    have HALL := Lib.hid hall
    have HF := Lib.hid hf
    have HFT := Lib.hid (enc_fits m es.length hall hl64)
    have HR := Lib.hid hr.bel
    have HXE := Lib.hid hXe
    have q1 : IntKind.u64.wrap (m : Int) = (m : Int) := by rw [IntKind.wrap_u64]; omega
    have q2 : IntKind.u64.wrap (es.length : Int) = (es.length : Int) := by rw [IntKind.wrap_u64]; omega
    clear hall hf hr hX hXe hc hck hbx
    go_enter Try.func31, Try.ntmps31
    go_wp2_with fail
    refine HCK.out.mono ?_
    rintro e w1 ⟨rfl, hb1⟩
    obtain ⟨c0, c1, hbw1⟩ := btbox_in hb1
    have HBB1 := Lib.hid hb1
    have HBW1 := Lib.hid hbw1
    clear hb1 hbw1 HCK
    go_wp2_with fail
    refine (put_any (.slice none 0 0) [] m w1 (by omega) (brow_nil _) (by simp)).mono ?_
    rintro e w2 ⟨v2, rfl, ho2, hb2⟩
    rw [List.nil_append] at ho2
    have HBB2 := Lib.hid (HBB1.out.trans (hb2.mono HBB1.out.size))
    obtain ⟨d0, d1, hbw2⟩ := btbox_in HBB2.out
    have HBW2 := Lib.hid hbw2
    have hbs := btbox_size w (m : Int) (.slice p es.length cap)
    have HO2 := Lib.hid (OwnB.weaken ho2 (show w.heap.size + 1 ≤ w1.heap.size by have := HBB1.out.size; omega))
    clear ho2 hb2 hbw2 c0 c1 HBB1 HBW1
    go_wp2_with fail
    refine (put_any (.slice none 0 0) [] es.length w2 (by omega) (brow_nil _) (by simp)).mono ?_
    rintro e w3 ⟨v3, rfl, ho3, hb3⟩
    rw [List.nil_append] at ho3
    have HO3 := Lib.hid ho3.brow
    have HV3 := Lib.hid (OwnB.keep HO2.out hb3)
    have HBB3 := Lib.hid (HBB2.out.trans (hb3.mono HBB2.out.size))
    clear ho3 hb3 d0 d1 HBB2 HBW2 HO2
    go_wp2_with (at_builtin; go_loud (refine wpList_append_bytes rfl _ _ rfl (w.heap.size + 1) v2 (bytesL m) rfl HV3.out _ (bytesL es.length) rfl HO3.out (by have := HFT.out 0; simp only [List.length_append] at this; omega) (by have := HBB3.out.size; omega) ?_; intro v4 w4 ho4 hb4; have HO4 : Hid (OwnB w.heap.size w4 v4 (bytesL m ++ bytesL es.length ++ bytesB (es.take 0))) := Lib.hid (by rw [show bytesL m ++ bytesL es.length ++ bytesB (es.take 0) = bytesL m ++ bytesL es.length by simp [bytesB]]; exact OwnB.weaken ho4 (Nat.le_succ _)); have hbb4 := HBB3.out.trans (by rw [hbs]; exact hb4); obtain ⟨f0, f1, hbw4⟩ := btbox_in hbb4; have HB4 := Lib.hid hbw4; clear ho4 hb4 hbb4 hbw4))
    have HB04 := HB4
    clear HBB3 HO3 HV3 HB4 f0 f1
    go_loopw [5, 27] (fun bv iv wr => ∃ k : Nat, k ≤ es.length ∧ iv = .int .i64 k ∧ Hid (OwnB w.heap.size wr bv (bytesL m ++ bytesL es.length ++ bytesB (es.take k))) ∧ Hid (Below w.heap.size w wr)) (fun _ iv _ => es.length - (intOf iv).toNat)
    case atStart => exact ⟨0, by omega, rfl, HO4, HB04⟩
    case round =>
      obtain ⟨k, hk, rfl, HOk, HBk⟩ := hrel
      clear HO4 HB04
      have hszk := HBk.out.size
      by_cases hlt : k < es.length
      · have q3 : decide ((k : Int) < (es.length : Int)) = true := by rw [decide_eq_true_eq]; omega
        have q4 : decide (k < es.length) = true := by rw [decide_eq_true_eq]; omega
        have q5 : (k : Int) < (es.length : Int) := by omega
        obtain ⟨b, off, vf, rfl, hbl, _, k1, k2, hfr⟩ := ev_at (HR.out.below HBk.out) hlt
        have hnx := bytesB_next hlt
        have hok := ok_bytes (HALL.out es[k] (List.getElem_mem hlt))
        have hfe := HF.out es[k] (List.getElem_mem hlt)
        obtain ⟨⟨z, fs⟩, hz2⟩ : ∃ e, es[k] = e := ⟨_, rfl⟩
        rw [hz2] at k1 hfr hnx hok hfe
        obtain ⟨h16, hx, _⟩ := hok
        change ROn fldC _ wr vf fs at hfr
        change wr.cell? ⟨b, off + k * 2, none⟩ = some (.int .i64 z) at k1
        obtain ⟨pf, cf, rfl, _⟩ := hfr.shape
        obtain ⟨L, hL⟩ : ∃ L, bytesL m ++ bytesL es.length ++ bytesB (es.take k) = L := ⟨_, rfl⟩
        have hn2 : bytesL m ++ bytesL es.length ++ bytesB (es.take (k + 1)) = L ++ bytesE (z, fs) := by rw [hnx, ← hL]; simp
        have hlen : L.length ≤ 9000000 := by rw [← hL]; exact HFT.out k
        have ho := HOk.out
        rw [hL] at ho
        have hlo : ∀ i, u5.ownBlock = some i → w.heap.size ≤ i ∧ i < wr.heap.size := fun i hi => World.ownsRow.lt ho i hi
        have hba : Below wr.heap.size wr (wr.alloc (.cells #[.int .i64 z, .slice pf fs.length cf] 24)) := (Below.refl _ _).alloc (Nat.le_refl _) _
        have HA := Lib.hid (appe_any u5 L z (.slice pf fs.length cf) fs _ (GB.OwnB.zero (OwnB.keep ho hba)) ((hfr.weak (T := fun i => u5.ownBlock ≠ some i) (fun i _ hi e => by have h1 := hlo i e; have h2 : i < w.heap.size := hi; omega)).keep (kep_below (fun i => u5.ownBlock ≠ some i) hba) fun _ _ h => h) hfe.1 hfe.2 h16 hx (by omega))
        have HN2 := Lib.hid hn2
        have HLT := Lib.hid hlt
        have HLO := Lib.hid hlo
        have HOB := Lib.hid (OwnB.keep ho hba)
        have HBA := Lib.hid (HBk.out.trans (hba.mono hszk))
        have n0 := (new_two wr (.int .i64 z) (.slice pf fs.length cf) 24).1
        have n1 := (new_two wr (.int .i64 z) (.slice pf fs.length cf) 24).2
        clear hnx hz2 hfr hL hn2 ho HOk hlt hx hfe hlo hba HBk
        go_wp2_with fail
        refine HA.out.mono ?_
        rintro e w6 ⟨v6, rfl, ho6, hg6⟩
        obtain ⟨ho7, hb7⟩ := grown_low (B := w.heap.size) (by simp; omega) HOB.out hg6 ho6
        rw [← HN2.out] at ho7
        have HO7 := Lib.hid ho7
        have HB7 := Lib.hid (HBA.out.trans hb7)
        clear ho6 hg6 ho7 hb7 HA n0 n1 k1 k2
        go_wp2_with fail
        have hlt := HLT.out
        go_roundw
        case rel => exact ⟨k + 1, by omega, by go_num, HO7, HB7⟩
        case measure => simp [intOf]; omega
      · obtain rfl : k = es.length := by omega
        have q3 : decide ((es.length : Int) < (es.length : Int)) = false := by simp
        have q4 : decide (es.length < es.length) = false := by simp
        have ho := HOk.out
        rw [List.take_length, ← HXE.out] at ho
        have HO9 := Lib.hid ho
        clear HOk ho hlt
        go_wp2_with fail
        go_ret2
        exact ⟨_, rfl, HO9.out, HBk.out⟩
  · have t0 : (c != 0) = true := by rw [bne_iff_ne]; exact h0
    have hXe : X = [] := by rw [← hX]; unfold encR; rw [if_neg (by rw [hc]; exact h0)]
    subst hXe
    clear hr hX hc hck hbx
    go_enter Try.func31, Try.ntmps31
    go_wp2_with fail
    refine HCK.out.mono ?_
    rintro e w1 ⟨rfl, hb1⟩
    obtain ⟨c0, c1, hb01⟩ := btbox_in hb1
    have HB1 := Lib.hid hb01
    clear hb1 hb01 HCK
    go_wp2_with fail
    go_ret2
    exact ⟨_, rfl, own_none _ _, HB1.out⟩
end Go.Proofs.Ytgacfihidpijeaa.EV
set_option linter.unusedVariables false
namespace Go.Proofs.Ytgacfihidpijeaa.VG
open Go.RowKit Go.Proofs.Ytgacfihidpijeaa.MM Go.Proofs.Ytgacfihidpijeaa.VM

/-- What stands behind what was got: nothing with an error. -/
def restL (l : List UInt8) : List UInt8 := if (getL l).2.2 = 0 then l.drop (getL l).2.1 else []
/-- A value, a rest, an error's number. -/
def GotIn (B : Nat) (x : Value) (er : Int) (rest : List UInt8) (w : World) (e : Ending) (w' : World) : Prop :=
  ∃ v', e = .returned (.tuple #[x, v', .int .i64 er]) ∧ BIn B w' v' rest ∧ Below w.heap.size w w'
def Got (x : Value) (er : Int) (rest : List UInt8) (w : World) (e : Ending) (w' : World) : Prop :=
  ∃ v', e = .returned (.tuple #[x, v', .int .i64 er]) ∧ BRow w' v' rest ∧ Below w.heap.size w w'
theorem GotIn.got {x : Value} {er : Int} {rest : List UInt8} {w : World} {e : Ending} {w' : World} (h : GotIn w.heap.size x er rest w e w') : Got x er rest w e w' := by
  obtain ⟨v', he, hr, hb⟩ := h
  exact ⟨v', he, hr.row hb.size, hb⟩

theorem code_val (n k c : Nat) (hn : n < 2 ^ (7 * k)) (hc : c < 256) (hf : n + c % 128 * 2 ^ (7 * k) < 18446744073709551616) :
    bits .or .u64 (n : Int) (IntKind.u64.wrap (IntKind.u64.wrap (bits .and .u8 (c : Int) 127) * 2 ^ (7 * k))) = ((n + c % 128 * 2 ^ (7 * k) : Nat) : Int) := by
  have e1 : bits .and .u8 (c : Int) 127 = ((c % 128 : Nat) : Int) := by rw [u8_and127 (x := (c : Int)) (by omega) (by omega)]; omega
  have e2 : IntKind.u64.wrap ((c % 128 : Nat) : Int) = ((c % 128 : Nat) : Int) := by rw [IntKind.wrap_u64]; omega
  have e3 : ((c % 128 : Nat) : Int) * 2 ^ (7 * k) = ((c % 128 * 2 ^ (7 * k) : Nat) : Int) := by
    rw [Int.natCast_mul, Int.natCast_pow]; rfl
  have hf2 : c % 128 * 2 ^ (7 * k) < 18446744073709551616 := by omega
  have e4 : IntKind.u64.wrap ((c % 128 * 2 ^ (7 * k) : Nat) : Int) = ((c % 128 * 2 ^ (7 * k) : Nat) : Int) := by rw [IntKind.wrap_u64]; omega
  rw [e1, e2, e3, e4, u64_or_nat _ _ (by omega) hf2, Nat.or_comm, Nat.mul_comm (c % 128), ← Nat.two_pow_add_eq_or_of_lt hn, Nat.add_comm]

theorem drop_cons {l : List UInt8} {k : Nat} (h : k < l.length) : l.drop k = l[k] :: l.drop (k + 1) := List.drop_eq_getElem_cons h

set_option maxRecDepth 100000 in
set_option maxHeartbeats 1000000 in
theorem get_in (B : Nat) (v : Value) (l : List UInt8) (w : World) (hr : BIn B w v l) (hB : B ≤ w.heap.size) :
    Calls Try.prog 75 #[v] w (GotIn B (.int .u64 (getL l).1) (getL l).2.2 (restL l) w) := by
  obtain ⟨p, cap, rfl, hlc, hcm⟩ := hr.shape
  unfold maxLen at hcm
  unfold restL
  obtain ⟨res, hres⟩ : ∃ res, getL l = res := ⟨_, rfl⟩
  have HG0 : Hid (getF 0 0 (l.drop 0) = res) := Lib.hid hres
  rw [hres]
  obtain ⟨R, hR⟩ : ∃ R, (if res.2.2 = 0 then l.drop res.2.1 else []) = R := ⟨_, rfl⟩
  rw [hR]
  have HR := Lib.hid hr
  have HE := Lib.hid hR
  clear hr hres hR
  go_enter Try.func75, Try.ntmps75
  go_wp2_with fail
  go_step3
  go_wp2_with fail
  go_step3
  go_wp2_with fail
  go_loop [2, 5, 10] (fun acc size i => ∃ (k n : Nat), k ≤ l.length ∧ i = .int .i64 k ∧ size = .int .i64 0 ∧ acc = .int .u64 n ∧ n < 2 ^ (7 * k) ∧ k ≤ 9 ∧ Hid (getF k n (l.drop k) = res)) (fun _ _ i => l.length - (intOf i).toNat)
  case atStart => exact ⟨0, 0, by omega, rfl, rfl, rfl, by omega, by omega, HG0⟩
  case round =>
    obtain ⟨k, n, hk, rfl, rfl, rfl, hn, hk9, hG⟩ := hrel
    clear HG0
    by_cases hlt : k < l.length
    · obtain ⟨b, off, rfl, hbl, hcell⟩ := (HR.out).at_ hlt
      have hg := hG.out
      have hrow := HR.out.drop2 (k + 1) (by omega)
      rw [drop_cons hlt] at hg
      obtain ⟨c, hc⟩ : ∃ c, l[k] = c := ⟨_, rfl⟩
      rw [hc] at hg hcell
      have hcb := c.toNat_lt
      clear hc hG
      by_cases hbad : (k = 9 ∧ 1 < c.toNat) ∨ (0 < k ∧ c.toNat = 0)
      · rw [getF_bad hbad] at hg
        subst hg
        have hRn : R = [] := by rw [← HE.out]; rfl
        subst hRn
        clear HE hrow
        by_cases h9 : k = 9 ∧ 1 < c.toNat
        · obtain ⟨h9, h1⟩ := h9
          have t1 : ((k : Int) == 9) = true := by simp; omega
          have t2 : decide ((c.toNat : Int) > 1) = true := by simp; omega
          clear hbad h9
          go_wp2_with fail
          go_ret3
          exact ⟨_, rfl, BIn.nil_ _ w, Below.refl _ _⟩
        · have h0 : 0 < k := by omega
          have t0 : ((c.toNat : Int) == 0) = true := by simp; omega
          have t2 : (c.toNat : Int) ≤ 1 := by omega
          have t3 : 0 < (k : Int) := by omega
          clear hbad h9
          by_cases h9 : k = 9
          · have t1 : ((k : Int) == 9) = true := by simp; omega
            clear h9
            go_wp2_with fail
            go_ret3
            exact ⟨_, rfl, BIn.nil_ _ w, Below.refl _ _⟩
          · have t1 : ((k : Int) == 9) = false := by simp; omega
            clear h9
            go_wp2_with fail
            go_ret3
            exact ⟨_, rfl, BIn.nil_ _ w, Below.refl _ _⟩
      · have hfit := gather_fits hn hk9 hbad
        have hval := code_val n k c.toNat hn hcb hfit
        obtain ⟨V, hV⟩ : ∃ V, n + c.toNat % 128 * 2 ^ (7 * k) = V := ⟨_, rfl⟩
        rw [hV] at hval
        by_cases hend : c.toNat < 128
        · rw [getF_end hbad hend, hV] at hg
          subst hg
          obtain rfl : l.drop (k + 1) = R := by rw [← HE.out]; rfl
          have hi1 : (k : Int) + 1 ≤ (l.length : Int) := by omega
          have hi2 : (l.length : Int) ≤ (cap : Int) := by omega
          have hd : ((k : Int) + 1 == 0) = false := by simp; omega
          have HRow := Lib.hid hrow
          clear hrow hV HE hn hfit
          by_cases h9 : k = 9
          · have t1 : ((k : Int) == 9) = true := by simp; omega
            have t2 : (c.toNat : Int) ≤ 1 := by omega
            have t3 : 0 < (k : Int) := by omega
            have t4 : ((c.toNat : Int) == 0) = false := by simp; omega
            clear hbad h9
            go_wp2_with fail
            go_quiet (fail)
            go_wp2_with fail
            · go_ret3
              exact ⟨_, rfl, (HRow.out.1 (by assumption)).drewN nq, below_drewN (Below.refl _ _) nq⟩
            · go_ret3
              exact ⟨_, rfl, (HRow.out.2 (by assumption)).drewN nq, below_drewN (Below.refl _ _) nq⟩
          · have t1 : ((k : Int) == 9) = false := by simp; omega
            by_cases h0 : 0 < k
            · have t3 : 0 < (k : Int) := by omega
              have t4 : ((c.toNat : Int) == 0) = false := by simp; omega
              clear hbad h9
              go_wp2_with fail
              go_quiet (fail)
              go_wp2_with fail
              · go_ret3
                exact ⟨_, rfl, (HRow.out.1 (by assumption)).drewN nq, below_drewN (Below.refl _ _) nq⟩
              · go_ret3
                exact ⟨_, rfl, (HRow.out.2 (by assumption)).drewN nq, below_drewN (Below.refl _ _) nq⟩
            · clear hbad h9
              go_wp2_with fail
              go_quiet (fail)
              go_wp2_with fail
              · go_ret3
                exact ⟨_, rfl, (HRow.out.1 (by assumption)).drewN nq, below_drewN (Below.refl _ _) nq⟩
              · go_ret3
                exact ⟨_, rfl, (HRow.out.2 (by assumption)).drewN nq, below_drewN (Below.refl _ _) nq⟩
        · rw [getF_more hbad hend, hV] at hg
          have hn2 := gather_lt hn c.toNat
          rw [hV] at hn2
          have hk2 := gather_next hk9 hbad hend
          have HG2 := Lib.hid hg
          clear hg hV hrow hn hfit
          have h9 : ¬ k = 9 := by omega
          have t1 : ((k : Int) == 9) = false := by simp; omega
          by_cases h0 : 0 < k
          · have t3 : 0 < (k : Int) := by omega
            have t4 : ((c.toNat : Int) == 0) = false := by simp; omega
            clear hbad h9
            go_wp2_with fail
            go_round
            case rel => exact ⟨k + 1, V, by omega, by go_num, rfl, rfl, hn2, hk2, HG2⟩
            case measure => simp [intOf]; omega
          · clear hbad h9
            go_wp2_with fail
            go_round
            case rel => exact ⟨k + 1, V, by omega, by go_num, rfl, rfl, hn2, hk2, HG2⟩
            case measure => simp [intOf]; omega
    · obtain rfl : k = l.length := by omega
      have hg := hG.out
      rw [List.drop_length, getF_nil] at hg
      subst hg
      have hRn : R = [] := by rw [← HE.out]; rfl
      subst hRn
      clear HE hG
      go_wp2_with fail
      go_ret3
      exact ⟨_, rfl, BIn.nil_ _ w, Below.refl _ _⟩
theorem get_any (v : Value) (l : List UInt8) (w : World) (hr : BRow w v l) : Calls Try.prog 75 #[v] w (Got (.int .u64 (getL l).1) (getL l).2.2 (restL l) w) :=
  (get_in _ v l w hr (Nat.le_refl _)).mono fun _ _ h => h.got
end Go.Proofs.Ytgacfihidpijeaa.VG
set_option linter.unusedVariables false
namespace Go.Proofs.Ytgacfihidpijeaa.VG
open Go.RowKit Go.Proofs.Ytgacfihidpijeaa.MM Go.Proofs.Ytgacfihidpijeaa.VM

theorem ref_val (n k c : Nat) (hf : n + c % 128 * 2 ^ (7 * k) < 18446744073709551616) :
    IntKind.u64.wrap ((n : Int) + IntKind.u64.wrap ((c : Int) % 128 * 2 ^ (7 * k))) = ((n + c % 128 * 2 ^ (7 * k) : Nat) : Int) := by
  have e3 : (c : Int) % 128 * 2 ^ (7 * k) = ((c % 128 * 2 ^ (7 * k) : Nat) : Int) := by
    rw [Int.natCast_mul, Int.natCast_pow]; rfl
  have hf2 : c % 128 * 2 ^ (7 * k) < 18446744073709551616 := by omega
  rw [e3, IntKind.wrap_u64, IntKind.wrap_u64]
  omega

set_option maxRecDepth 100000 in
set_option maxHeartbeats 1000000 in
theorem rget_in (B : Nat) (v : Value) (l : List UInt8) (w : World) (hr : BIn B w v l) (hB : B ≤ w.heap.size) :
    Calls Try.prog 51 #[v] w (GotIn B (.int .u64 (getL l).1) (getL l).2.2 (restL l) w) := by
  obtain ⟨p, cap, rfl, hlc, hcm⟩ := hr.shape
  unfold maxLen at hcm
  unfold restL
  obtain ⟨res, hres⟩ : ∃ res, getL l = res := ⟨_, rfl⟩
  have HG0 : Hid (getF 0 0 (l.drop 0) = res) := Lib.hid hres
  rw [hres]
  obtain ⟨R, hR⟩ : ∃ R, (if res.2.2 = 0 then l.drop res.2.1 else []) = R := ⟨_, rfl⟩
  rw [hR]
  have HR := Lib.hid hr
  have HE := Lib.hid hR
  clear hr hres hR
  go_enter Try.func51, Try.ntmps51
  go_wp2_with fail
  go_loopw [5, 6] (fun acc i wr => ∃ (k n : Nat), k ≤ l.length ∧ i = .int .i64 k ∧ acc = .int .u64 n ∧ n < 2 ^ (7 * k) ∧ k ≤ 9 ∧ Below w.heap.size w wr ∧ Hid (getF k n (l.drop k) = res)) (fun _ i _ => l.length - (intOf i).toNat)
  case atStart => exact ⟨0, 0, by omega, rfl, rfl, by omega, by omega, Below.refl _ _, HG0⟩
  case round =>
    obtain ⟨k, n, hk, rfl, rfl, hn, hk9, hbw, hG⟩ := hrel
    clear HG0
    by_cases hlt : k < l.length
    · obtain ⟨b, off, rfl, hbl, hcell⟩ := ((HR.out).below (hbw.mono hB)).at_ hlt
      have hg := hG.out
      have hrow := (HR.out.below (hbw.mono hB)).drop2 (k + 1) (by omega)
      rw [drop_cons hlt] at hg
      obtain ⟨c, hc⟩ : ∃ c, l[k] = c := ⟨_, rfl⟩
      rw [hc] at hg hcell
      have hcb := c.toNat_lt
      clear hc hG
      have hlt' : (k : Int) < (l.length : Int) := by omega
      by_cases hbad : (k = 9 ∧ 1 < c.toNat) ∨ (0 < k ∧ c.toNat = 0)
      · rw [getF_bad hbad] at hg
        subst hg
        have hRn : R = [] := by rw [← HE.out]; rfl
        subst hRn
        clear HE hrow
        by_cases h9 : k = 9 ∧ 1 < c.toNat
        · obtain ⟨h9, h1⟩ := h9
          have t1 : ((k : Int) == 9) = true := by simp; omega
          have t2 : decide ((c.toNat : Int) > 1) = true := by simp; omega
          clear hbad h9
          go_wp2_with fail
          go_ret3
          exact ⟨_, rfl, BIn.nil_ _ wr, hbw⟩
        · have h0 : 0 < k := by omega
          have t0 : ((c.toNat : Int) == 0) = true := by simp; omega
          have t2 : decide ((c.toNat : Int) > 1) = false := by simp; omega
          have t3 : 0 < (k : Int) := by omega
          clear hbad h9
          by_cases h9 : k = 9
          · have t1 : ((k : Int) == 9) = true := by simp; omega
            clear h9
            go_wp2_with fail
            go_ret3
            exact ⟨_, rfl, BIn.nil_ _ wr, hbw⟩
          · have t1 : ((k : Int) == 9) = false := by simp; omega
            clear h9
            go_wp2_with fail
            go_ret3
            exact ⟨_, rfl, BIn.nil_ _ wr, hbw⟩
      · have hfit := gather_fits hn hk9 hbad
        have hval := ref_val n k c.toNat hfit
        obtain ⟨V, hV⟩ : ∃ V, n + c.toNat % 128 * 2 ^ (7 * k) = V := ⟨_, rfl⟩
        rw [hV] at hval
        by_cases hend : c.toNat < 128
        · rw [getF_end hbad hend, hV] at hg
          subst hg
          obtain rfl : l.drop (k + 1) = R := by rw [← HE.out]; rfl
          have hi1 : (k : Int) + 1 ≤ (l.length : Int) := by omega
          have hi2 : (l.length : Int) ≤ (cap : Int) := by omega
          have HRow := Lib.hid hrow
          clear hrow hV HE hn hfit
          by_cases h9 : k = 9
          · have t1 : ((k : Int) == 9) = true := by simp; omega
            have t2 : decide ((c.toNat : Int) > 1) = false := by simp; omega
            have t3 : 0 < (k : Int) := by omega
            have t4 : ((c.toNat : Int) == 0) = false := by simp; omega
            clear hbad h9
            go_wp2_with fail
            go_quiet (fail)
            go_wp2_with fail
            · go_ret3
              exact ⟨_, rfl, (HRow.out.1 (by assumption)).drewN nq, below_drewN hbw nq⟩
            · go_ret3
              exact ⟨_, rfl, (HRow.out.2 (by assumption)).drewN nq, below_drewN hbw nq⟩
          · have t1 : ((k : Int) == 9) = false := by simp; omega
            by_cases h0 : 0 < k
            · have t3 : 0 < (k : Int) := by omega
              have t4 : ((c.toNat : Int) == 0) = false := by simp; omega
              clear hbad h9
              go_wp2_with fail
              go_quiet (fail)
              go_wp2_with fail
              · go_ret3
                exact ⟨_, rfl, (HRow.out.1 (by assumption)).drewN nq, below_drewN hbw nq⟩
              · go_ret3
                exact ⟨_, rfl, (HRow.out.2 (by assumption)).drewN nq, below_drewN hbw nq⟩
            · clear hbad h9
              go_wp2_with fail
              go_quiet (fail)
              go_wp2_with fail
              · go_ret3
                exact ⟨_, rfl, (HRow.out.1 (by assumption)).drewN nq, below_drewN hbw nq⟩
              · go_ret3
                exact ⟨_, rfl, (HRow.out.2 (by assumption)).drewN nq, below_drewN hbw nq⟩
        · rw [getF_more hbad hend, hV] at hg
          have hn2 := gather_lt hn c.toNat
          rw [hV] at hn2
          have hk2 := gather_next hk9 hbad hend
          have HG2 := Lib.hid hg
          clear hg hV hrow hn hfit
          have h9 : ¬ k = 9 := by omega
          have t1 : ((k : Int) == 9) = false := by simp; omega
          by_cases h0 : 0 < k
          · have t3 : 0 < (k : Int) := by omega
            have t4 : ((c.toNat : Int) == 0) = false := by simp; omega
            clear hbad h9
            go_wp2_with fail
            go_roundw
            case rel => exact ⟨k + 1, V, by omega, by go_num, rfl, hn2, hk2, hbw, HG2⟩
            case measure => simp [intOf]; omega
          · clear hbad h9
            go_wp2_with fail
            go_roundw
            case rel => exact ⟨k + 1, V, by omega, by go_num, rfl, hn2, hk2, hbw, HG2⟩
            case measure => simp [intOf]; omega
    · obtain rfl : k = l.length := by omega
      have hg := hG.out
      rw [List.drop_length, getF_nil] at hg
      subst hg
      have hRn : R = [] := by rw [← HE.out]; rfl
      subst hRn
      clear HE hG
      go_wp2_with fail
      go_ret3
      exact ⟨_, rfl, BIn.nil_ _ wr, hbw⟩
theorem rget_any (v : Value) (l : List UInt8) (w : World) (hr : BRow w v l) : Calls Try.prog 51 #[v] w (Got (.int .u64 (getL l).1) (getL l).2.2 (restL l) w) :=
  (rget_in _ v l w hr (Nat.le_refl _)).mono fun _ _ h => h.got
end Go.Proofs.Ytgacfihidpijeaa.VG
