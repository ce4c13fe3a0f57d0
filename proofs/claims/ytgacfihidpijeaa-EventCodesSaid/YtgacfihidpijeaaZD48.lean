/-
  A batch's bytes: the reference's Encode. Condition: the events' times are whole numbers of 64 bits.
-/
import Derived.Test.YtgacfihidpijeaaZD46
import Derived.Test.YtgacfihidpijeaaZD42
set_option linter.unusedVariables false
namespace Go.Proofs.Ytgacfihidpijeaa.EV
open Go Go.RowKit Go.Proofs.Ytgacfihidpijeaa.MM Go.Proofs.Ytgacfihidpijeaa.EM Go.Proofs.Ytgacfihidpijeaa.VM Go.Proofs.Ytgacfihidpijeaa.GB
open Go.Proofs.Ytgacfihidpijeaa.VP

set_option maxRecDepth 100000 in
set_option maxHeartbeats 2000000 in
theorem rencode_any (seq : Int) (v : Value) (es : List Ev) (w : World) (hr : RAny evC w v es) (hf : ∀ e ∈ es, FitE e) :
    Calls Try.prog 32 #[.agg #[.int .i64 seq, v]] w (CodeLeft (encR (seq, es)) (checkB (seq, es)) w) := by
  have hmx : Try.prog.follows .mixedOrders = true := by kernel_rfl
  have hbx := btbox_below w seq v
  have hck := rcbatch_any seq v es _ (RAny.below hr hbx)
  obtain ⟨p, cap, rfl, hlc, hcm, _⟩ := hr.shape
  unfold maxLen at hcm
  obtain ⟨c, hc⟩ : ∃ c, checkB (seq, es) = c := ⟨_, rfl⟩
  rw [hc] at hck
  have HCK := Lib.hid hck
  obtain ⟨X, hX⟩ : ∃ X, encR (seq, es) = X := ⟨_, rfl⟩
  rw [hX, hc]
  have HBX := Lib.hid hbx
  by_cases h0 : c = 0
  · subst h0
    obtain ⟨hl1, hl64, hall, _, hs1, hs2⟩ := checkB_ok hc
    have hl64 : es.length ≤ 64 := hl64
    have hs1 : 1 ≤ seq := hs1
    have hs2 : seq ≤ 1099511627776 := by have : seq ≤ 1099511627776 - ((es.length : Int) - 1) := hs2; omega
    obtain ⟨m, rfl⟩ : ∃ m : Nat, seq = (m : Int) := ⟨seq.toNat, by omega⟩
    have hXe : X = bytesL m ++ bytesL es.length ++ bytesB es := by rw [← hX]; unfold encR; rw [if_pos hc]; rfl
    have HALL := Lib.hid hall
    have HF := Lib.hid hf
    have HFT := Lib.hid (enc_fits m es.length hall hl64)
    have HR := Lib.hid hr
    have HXE := Lib.hid hXe
    have q1 : IntKind.u64.wrap (m : Int) = (m : Int) := by rw [IntKind.wrap_u64]; omega
    have q2 : IntKind.u64.wrap (es.length : Int) = (es.length : Int) := by rw [IntKind.wrap_u64]; omega
    clear hall hf hr hX hXe hc hck hbx
    go_enter Try.func32, Try.ntmps32
    go_wp2_with fail
    refine HCK.out.mono ?_
    rintro e w1 ⟨rfl, hb1⟩
    have HBB1 := Lib.hid hb1
    have hbs := btbox_size w (m : Int) (.slice p es.length cap)
    clear hb1 HCK
    go_wp2_with fail
    refine RK.begin_ (T := fun k => k < (btBox w (m : Int) (.slice p es.length cap)).heap.size) [(0, true), (1, true), (2, true), (4, true), (5, true), (6, true), (7, true), (3, false), (8, false), (9, false), (10, true)] (by kernel_rfl) (by kernel_rfl) rfl (by kernel_rfl) (fun _ _ d _ _ h => by cases d <;> exact h) ?_
    simp only [RK.ordered, List.map_cons, List.map_nil, List.getElem?_toArray, List.getElem?_cons_succ, List.getElem?_cons_zero]
    obtain ⟨B, hB⟩ : ∃ B, (btBox w (m : Int) (.slice p es.length cap)).heap.size = B := ⟨_, rfl⟩
    obtain ⟨wd, hwd⟩ : ∃ wd, w1.drew = wd := ⟨_, rfl⟩
    have hbd : Below (btBox w (m : Int) (.slice p es.length cap)).heap.size (btBox w (m : Int) (.slice p es.length cap)) wd := by rw [← hwd]; exact HBB1.out.drew
    have G := Lib.hid (fun W (hW : Kep (fun k => k < B) wd W) => (show W.cell? ⟨w.heap.size, 0, none⟩ = some (.int .i64 (m : Int)) ∧ W.cell? ⟨w.heap.size, 1, none⟩ = some (.slice p es.length cap) from by
      have hb := hbd.trans (hW.below (B := (btBox w (m : Int) (.slice p es.length cap)).heap.size) hbd.size (fun k hk => by omega))
      exact ⟨(btbox_in hb).1, (btbox_in hb).2.1⟩))
    have HBD := Lib.hid hbd
    have hsd := hbd.size
    rw [hB] at hsd hbs
    rw [hwd, hB]
    clear hwd hbd HBB1
    repeat (refine RK.take (by rfl) (by intro W hW; obtain ⟨f1, f2⟩ := G.out W hW; go_simp; with_reducible rfl) ?_; simp only [Act.put, List.setIfInBounds_toArray, List.set_cons_zero, List.set_cons_succ])
    refine RK.alone (by rfl) (fun K hK => ?_)
    go_simp
    try rw [q1]
    refine (rbytes_any m wd (by omega)).mono ?_
    rintro e w2 ⟨v2, rfl, ho2, hb2⟩
    go_simp
    refine hK.out _ _ (kep_below _ hb2) ?_
    clear hK K
    have hs2' := hb2.size
    have HO2 := Lib.hid (OwnB.weaken ho2 hsd)
    have HB2 := Lib.hid (HBD.out.trans (hb2.mono (by rw [hB]; exact hsd)))
    clear ho2 hb2
    refine RK.alone (by rfl) (fun K hK => ?_)
    go_simp
    try rw [q2]
    refine (rbytes_any es.length w2 (by omega)).mono ?_
    rintro e w3 ⟨v3, rfl, ho3, hb3⟩
    go_simp
    refine hK.out _ _ (kep_below _ hb3) ?_
    clear hK K
    have hs3 := hb3.size
    have HO3 := Lib.hid (OwnB.keep HO2.out hb3)
    have HV3 := Lib.hid ho3.brow
    have HB3 := Lib.hid (HB2.out.trans (hb3.mono (by rw [hB]; omega)))
    clear ho3 hb3 HO2 HB2 HBD G
    refine RK.alone (by rfl) (fun K hK => ?_)
    refine wp_append_grown _ _ rfl v2 (bytesL m) rfl (GB.OwnB.zero HO3.out) _ (bytesL es.length) rfl HV3.out (bytesL_ne _) (by have := HFT.out 0; simp only [List.length_append] at this; omega) ?_
    intro v4 w4 ho4 hg4
    refine hK.out _ _ (hg4.kep.mono fun k hk e => absurd (World.ownsRow.lt HO3.out k e).1 (Nat.not_le.2 hk)) ?_
    clear hK K
    obtain ⟨ho5, hb5⟩ := grown_low (by omega : B ≤ w3.heap.size) HO3.out hg4 ho4
    have HO5 : Hid (OwnB B w4 v4 (bytesL m ++ bytesL es.length ++ bytesB (es.take 0))) := Lib.hid (by rw [show bytesL m ++ bytesL es.length ++ bytesB (es.take 0) = bytesL m ++ bytesL es.length by simp [bytesB]]; exact ho5)
    have HB5 := Lib.hid (HB3.out.trans (by rw [hB]; exact hb5))
    clear ho4 hg4 ho5 hb5 HO3 HV3 HB3
    repeat (refine RK.take (by rfl) (by intro W hW; go_simp; with_reducible rfl) ?_; simp only [Act.put, List.setIfInBounds_toArray, List.set_cons_zero, List.set_cons_succ])
    refine RK.done ?_
    have HBE := Lib.hid hB
    clear hB
    go_wp2_with fail
    go_loopw [5, 6] (fun bv iv wr => ∃ k : Nat, k ≤ es.length ∧ iv = .int .i64 k ∧ Hid (OwnB B wr bv (bytesL m ++ bytesL es.length ++ bytesB (es.take k))) ∧ Hid (Below (btBox w (m : Int) (.slice p es.length cap)).heap.size (btBox w (m : Int) (.slice p es.length cap)) wr)) (fun _ iv _ => es.length - (intOf iv).toNat)
    case atStart => exact ⟨0, by omega, rfl, HO5, HB5⟩
    case round =>
      obtain ⟨k, hk, rfl, HOk, HBk⟩ := hrel
      clear HO5 HB5
      obtain ⟨d0, d1, hbw⟩ := btbox_in HBk.out
      have hszk := HBk.out.size
      rw [HBE.out] at hszk
      by_cases hlt : k < es.length
      · have q3 : decide ((k : Int) < (es.length : Int)) = true := by rw [decide_eq_true_eq]; omega
        have q4 : decide (k < es.length) = true := by rw [decide_eq_true_eq]; omega
        have q5 : (k : Int) < (es.length : Int) := by omega
        obtain ⟨b, off, vf, rfl, hbl, _, k1, k2, hfr⟩ := ev_at (HR.out.below hbw) hlt
        have hnx := bytesB_next hlt
        have hok := ok_bytes (HALL.out es[k] (List.getElem_mem hlt))
        have hfe := HF.out es[k] (List.getElem_mem hlt)
        have hll := HFT.out (k + 1)
        rw [hnx] at hll
        obtain ⟨⟨z, fs⟩, hz2⟩ : ∃ e, es[k] = e := ⟨_, rfl⟩
        rw [hz2] at k1 hfr hnx hok hfe hll
        obtain ⟨h16, hx, _⟩ := hok
        change ROn fldC _ wr vf fs at hfr
        change wr.cell? ⟨b, off + k * 2, none⟩ = some (.int .i64 z) at k1
        obtain ⟨pf, cf, rfl, _⟩ := hfr.shape
        have HRB := Lib.hid (rbytese_any z _ fs wr hfr.any hfe.1 hfe.2 h16 hx)
        obtain ⟨M, hM⟩ : ∃ M, bytesE (z, fs) = M := ⟨_, rfl⟩
        obtain ⟨L, hL⟩ : ∃ L, bytesL m ++ bytesL es.length ++ bytesB (es.take k) = L := ⟨_, rfl⟩
        have hn2 : bytesL m ++ bytesL es.length ++ bytesB (es.take (k + 1)) = L ++ M := by rw [hnx, ← hL, ← hM]; simp
        have hlen : (L ++ M).length ≤ 9000000 := by rw [← hn2]; exact HFT.out (k + 1)
        have ho := HOk.out
        rw [hL] at ho
        rw [hM] at HRB
        have HOL0 := Lib.hid ho
        have HN2 := Lib.hid hn2
        have HLT := Lib.hid hlt
        clear hnx hll hz2 hfr hL hM hn2 ho HOk hlt hx hfe hbw
        go_wp2_with fail
        refine HRB.out.mono ?_
        rintro e w6 ⟨v6, rfl, ho6, hb6⟩
        have HO6 := Lib.hid ho6.brow
        have HV6 := Lib.hid (HOL0.out.keep hb6)
        have hb16 := HBk.out.trans (hb6.mono HBk.out.size)
        have HB6 := Lib.hid hb16
        have hs6 := hb16.size
        rw [HBE.out] at hs6
        clear ho6 hb6 hb16 HRB HBk HOL0 k1 k2 d0 d1
        go_wp2_with (at_builtin; go_loud (refine wpList_append_bytes rfl _ _ rfl B u5 L rfl HV6.out _ M rfl HO6.out (by simp only [List.length_append] at hlen; omega) hs6 ?_; intro v8 w8 ho8 hb8; rw [← HN2.out] at ho8; have HO8 := Lib.hid ho8; have HB8 := Lib.hid (HB6.out.trans (by rw [HBE.out]; exact hb8)); clear ho8 hb8))
        have hlt := HLT.out
        go_roundw
        case rel => exact ⟨k + 1, by omega, by go_num, HO8, HB8⟩
        case measure => simp [intOf]; omega
      · obtain rfl : k = es.length := by omega
        have q3 : decide ((es.length : Int) < (es.length : Int)) = false := by simp
        have q4 : decide (es.length < es.length) = false := by simp
        have ho := HOk.out
        rw [List.take_length, ← HXE.out] at ho
        have HO9 := Lib.hid (OwnB.weaken ho (show w.heap.size ≤ B by rw [hbs]; exact Nat.le_succ _))
        have HB9 := Lib.hid hbw
        clear HOk ho hlt hbw d0
        go_wp2_with fail
        go_ret2
        exact ⟨_, rfl, HO9.out, HB9.out⟩
  · have t0 : (c != 0) = true := by rw [bne_iff_ne]; exact h0
    have hXe : X = [] := by rw [← hX]; unfold encR; rw [if_neg (by rw [hc]; exact h0)]
    subst hXe
    clear hr hX hc hck hbx
    go_enter Try.func32, Try.ntmps32
    go_wp2_with fail
    refine HCK.out.mono ?_
    rintro e w1 ⟨rfl, hb1⟩
    obtain ⟨c0, c1, hb01⟩ := btbox_in hb1
    have HB1 := Lib.hid hb01
    clear hb1 hb01 HCK
    go_wp2_with fail
    go_ret2
    exact ⟨_, rfl, own_none _ _, HB1.out⟩
end Go.Proofs.Ytgacfihidpijeaa.EV
