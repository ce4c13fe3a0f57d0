/-
  Both disks are asked for all that they tell: it is alike.
-/
import Derived.Test.YtlphleajgdibgaaDskSteps
import Derived.Test.YtlphleajgdibgaaDskUsed
import Derived.Test.YtlphleajgdibgaaReg
set_option linter.unusedVariables false
namespace Go.Proofs.Ytlphleajgdibgaa.DK
open Go.RowKit Go.Proofs.Ytlphleajgdibgaa.MM Go.Maps

theorem BothAt.up {w w' : World} {gb g : Nat} {L : Value} {d : DiskD} (h : BothAt w gb g L d) (hb : Below w.heap.size w w') : BothAt w' gb g L d := (hb.block gb h.lt).trans h
theorem Grow3 {B : Nat} {w wk W : World} (h : Below B w wk) (hB : B ≤ w.heap.size) (hW : RG.Grew wk W) : Below B w W := h.trans (hW.mono (Nat.le_trans hB h.size))
set_option maxRecDepth 100000 in
set_option maxHeartbeats 4000000 in
theorem same_any (A gb g : Nat) (S : Nat → Prop) (L : Value) (d : DiskD) (n : List UInt8) (w : World) (h : Sim A S w gb g L d) (hN : Nam d) (hn : n.length ≤ 70) :
    Calls Try.prog 13 #[.pointer (some ⟨gb, 0, none⟩), .string ⟨n.toArray⟩] w fun e w' => e = .returned (.bool true) ∧ Below w.heap.size w w' := by
  obtain ⟨mb, V, c, hco⟩ := h.co
  obtain ⟨pl, cl, rfl, hlc, hcm⟩ := h.fi.shape
  have hF := h.fits
  have hll : d.L.length ≤ 1000000 := by have := hF.len; omega
  have hfi := h.fi
  obtain ⟨SN, hSN⟩ : ∃ s : ByteArray, (⟨n.toArray⟩ : ByteArray) = s := ⟨_, rfl⟩
  obtain ⟨Z, hZ⟩ : ∃ Z, sizeD d n = Z := ⟨_, rfl⟩
  obtain ⟨du, hdu⟩ : ∃ m, durableD d n = m := ⟨_, rfl⟩
  obtain ⟨us, hus⟩ : ∃ m, usedL d.L = m := ⟨_, rfl⟩
  obtain ⟨ns, hns⟩ : ∃ m, namesD d = m := ⟨_, rfl⟩
  have HCO := Lib.hid (fun W (hW : Below w.heap.size w W) => hco.below hW)
  have HFI := Lib.hid (fun W (hW : Below w.heap.size w W) => hfi.below hW)
  have HBO := Lib.hid h.bo
  have hup := h.fits.used
  have HSZ := Lib.hid (show ∀ W, Below w.heap.size w W → Calls Try.prog 27 #[.pointer (some ⟨g, 0, none⟩), .string SN] W fun e w' => e = .returned (.tuple #[.int .i64 (Z.1 : Int), .bool Z.2]) ∧ Below W.heap.size W w' from fun W hW => by
    have := csize_any S g mb V c d n W (HCO.out W hW) (by omega)
    rw [(size_eq hN n).1, (size_eq hN n).2, hZ, hSN] at this
    exact this)
  have HRZ := Lib.hid (show ∀ W, Below w.heap.size w W → Calls Try.prog 36 #[.agg #[.slice pl d.L.length cl, .int .i64 d.quota, .int .i64 d.armed, .bool d.stopped], .string SN] W fun e w' => e = .returned (.tuple #[.int .i64 (Z.1 : Int), .bool Z.2]) ∧ Below W.heap.size W w' from fun W hW => by
    have := rsize_any w.heap.size (.slice pl d.L.length cl) d n W (HFI.out W hW) hW.size hll
    rw [hZ, hSN] at this
    exact this)
  have HU := Lib.hid (show ∀ W, Below w.heap.size w W → Calls Try.prog 21 #[.pointer (some ⟨g, 0, none⟩)] W fun e w' => e = .returned (.int .i64 (us : Int)) ∧ Below W.heap.size W w' from fun W hW => by
    have := cused_any S g mb V c d W (HCO.out W hW) hF hup
    rw [hus] at this
    exact this)
  have HRU := Lib.hid (show ∀ W, Below w.heap.size w W → Calls Try.prog 37 #[.agg #[.slice pl d.L.length cl, .int .i64 d.quota, .int .i64 d.armed, .bool d.stopped]] W fun e w' => e = .returned (.int .i64 (us : Int)) ∧ Below W.heap.size W w' from fun W hW => by
    have := used_any (XB := XS S gb gb) w.heap.size (diskV (.slice pl d.L.length cl) d) d W ⟨_, rfl, HFI.out W hW⟩ hW.size (by omega) hup
    rw [hus] at this
    exact this)
  have HST := Lib.hid (show ∀ W, Below w.heap.size w W → Calls Try.prog 20 #[.pointer (some ⟨g, 0, none⟩)] W fun e w' => e = .returned (.bool d.stopped) ∧ Below W.heap.size W w' from fun W hW =>
    (cstopped_any S g mb V c d W (HCO.out W hW)).mono fun e w' q => ⟨q.1, q.2 ▸ Below.refl _ _⟩)
  have HDU := Lib.hid (show ∀ W, Below w.heap.size w W → Calls Try.prog 17 #[.pointer (some ⟨g, 0, none⟩), .string SN] W fun e w' => e = .returned (.int .i64 (du : Int)) ∧ Below W.heap.size W w' from fun W hW => by
    have := cdurable_any S g mb V c d n W (HCO.out W hW) (by omega)
    rw [dur_eq, hdu, hSN] at this
    exact this.mono fun e w' q => ⟨q.1, q.2 ▸ Below.refl _ _⟩)
  have HRD := Lib.hid (show ∀ W, Below w.heap.size w W → Calls Try.prog 38 #[.agg #[.slice pl d.L.length cl, .int .i64 d.quota, .int .i64 d.armed, .bool d.stopped], .string SN] W fun e w' => e = .returned (.int .i64 (du : Int)) ∧ Below W.heap.size W w' from fun W hW => by
    have := rdurable_any w.heap.size (.slice pl d.L.length cl) d n W (HFI.out W hW) hW.size hll
    rw [hdu, hSN] at this
    exact this)
  have HLI := Lib.hid (show ∀ W, Below w.heap.size w W → Calls Try.prog 18 #[.pointer (some ⟨g, 0, none⟩)] W fun e w' => ∃ v, e = .returned v ∧ TRow w' v ns ∧ Below W.heap.size W w' from fun W hW => by
    have := dlist (B := 0) ⟨S, mb, V, c, HCO.out W hW, fun _ _ => Nat.zero_le _⟩ hF
    rw [← hns]
    exact this.mono fun e w' ⟨v, q1, q2, q3⟩ => ⟨v, q1, sin_trow q2, q3⟩)
  have HRL := Lib.hid (show ∀ W, Below w.heap.size w W → Calls Try.prog 40 #[.agg #[.slice pl d.L.length cl, .int .i64 d.quota, .int .i64 d.armed, .bool d.stopped]] W fun e w' => ∃ v, e = .returned v ∧ TRow w' v ns ∧ Below W.heap.size W w' from fun W hW => by
    have := rlist_any w.heap.size (.slice pl d.L.length cl) d W (HFI.out W hW) hW.size hll
    rw [hns] at this
    exact this)
  have HRF := Lib.hid (show ∀ f ∈ d.L, d.stopped = false → ∀ W, Below w.heap.size w W → Calls Try.prog 15 #[.pointer (some ⟨g, 0, none⟩), .string ⟨f.name.toArray⟩, .int .i64 0, .int .i64 ((f.b.length : Int) + 1)] W fun e w' => ∃ v, e = .returned (.tuple #[v, .int .i64 0]) ∧ BRow w' v f.b ∧ Below W.heap.size W w' from fun f hf hs W hW => by
    have hbl := hF.bytes f hf
    have hnl := hF.name f hf
    have := cread_any S g mb V c d f.name 0 ((f.b.length : Int) + 1) W (HCO.out W hW) hF (by omega) (by omega) (by omega) (by omega) (by omega)
    rw [read_file hN hF.good hf hs _ (by omega)] at this
    exact this)
  have HDF := Lib.hid (show ∀ f ∈ d.L, ∀ W, Below w.heap.size w W → Calls Try.prog 17 #[.pointer (some ⟨g, 0, none⟩), .string ⟨f.name.toArray⟩] W fun e w' => e = .returned (.int .i64 (f.sure : Int)) ∧ Below W.heap.size W w' from fun f hf W hW => by
    have hnl := hF.name f hf
    have := cdurable_any S g mb V c d f.name W (HCO.out W hW) (by omega)
    rw [dur_file hF.good hf] at this
    exact this.mono fun e w' q => ⟨q.1, q.2 ▸ Below.refl _ _⟩)
  have HL := Lib.hid hfi
  have HBY := Lib.hid hF.bytes
  have b0 := h.bo.b0
  have b1 := h.bo.b1
  have b2 := h.bo.b2
  have b3 := h.bo.b3
  have b4 := h.bo.b4
  rw [hSN]
  clear h hco hfi hF hN hup hZ hdu hus hns hSN hn
  go_enter Try.func13, Try.ntmps13
  go_wp2_with fail
  refine (HSZ.out w (Below.refl _ _)).mono ?_
  rintro e w1 ⟨rfl, hb1⟩
  have q0 := (HBO.out.up hb1).b0
  have q1 := (HBO.out.up hb1).b1
  have q2 := (HBO.out.up hb1).b2
  have q3 := (HBO.out.up hb1).b3
  have q4 := (HBO.out.up hb1).b4
  have HB1 := Lib.hid hb1
  clear hb1 b0 b1 b2 b3 b4 HSZ
  go_wp2_with fail
  refine (HRZ.out w1 HB1.out).mono ?_
  rintro e w2 ⟨rfl, hb2⟩
  have HB2 := Lib.hid (HB1.out.trans (hb2.mono HB1.out.size))
  clear hb2 q0 q1 q2 q3 q4 HRZ HB1
  go_wp2_with fail
  refine RG.begin_ [(0, true), (1, true), (2, true), (3, true), (4, true), (5, true), (6, true), (7, true), (8, true), (9, true), (10, true), (11, true), (12, true), (14, true), (15, true), (16, true), (17, true), (13, false), (18, false), (19, true), (20, true), (21, true), (22, true), (23, true), (24, true), (25, true), (27, true), (28, true), (29, true), (30, true), (31, true), (26, false), (32, true), (33, true), (34, true), (35, true), (36, true), (37, true), (38, true), (39, true), (41, true), (42, true), (43, true), (44, true), (45, true), (40, false), (46, false), (47, true), (48, true), (49, true), (50, true), (51, true), (52, true), (53, true), (55, true), (56, true), (57, true), (58, true), (54, false), (59, false), (60, false), (61, true), (62, true)] (by kernel_rfl) (by kernel_rfl) rfl (by kernel_rfl) (fun _ _ d _ _ h => by cases d <;> exact h) ?_
  simp only [RG.ordered, List.map_cons, List.map_nil, List.getElem?_toArray, List.getElem?_cons_succ, List.getElem?_cons_zero]
  obtain ⟨wd, hwd⟩ : ∃ wd, w2.drew = wd := ⟨_, rfl⟩
  have HBD : Hid (Below w.heap.size w wd) := Lib.hid (by rw [← hwd]; exact HB2.out.drew)
  rw [hwd]
  clear hwd
  have g0 := fun W (hW : RG.Grew wd W) => (HBO.out.up (Grow3 HBD.out (Nat.le_refl _) hW)).b0
  have g1 := fun W (hW : RG.Grew wd W) => (HBO.out.up (Grow3 HBD.out (Nat.le_refl _) hW)).b1
  have g2 := fun W (hW : RG.Grew wd W) => (HBO.out.up (Grow3 HBD.out (Nat.le_refl _) hW)).b2
  have g3 := fun W (hW : RG.Grew wd W) => (HBO.out.up (Grow3 HBD.out (Nat.le_refl _) hW)).b3
  have g4 := fun W (hW : RG.Grew wd W) => (HBO.out.up (Grow3 HBD.out (Nat.le_refl _) hW)).b4
  repeat ((first | (refine RG.take (by rfl) (by intro W hW; go_simp; with_reducible rfl) ?_) | (refine RG.skip (by rfl) ?_) | (refine RG.alone_skip (by rfl) ?_)); simp only [Act.put, List.setIfInBounds_toArray, List.set_cons_zero, List.set_cons_succ])
  refine RG.alone (by rfl) (fun K hK => ?_)
  go_simp
  refine (HU.out _ HBD.out).mono ?_
  rintro e w3 ⟨rfl, bb3⟩
  go_simp
  refine hK.out _ _ bb3 ?_
  clear hK K g0 g1 g2 g3 g4
  have HB3 := Lib.hid (HBD.out.trans (bb3.mono HBD.out.size))
  have g0 := fun W (hW : RG.Grew w3 W) => (HBO.out.up (Grow3 HB3.out (Nat.le_refl _) hW)).b0
  have g1 := fun W (hW : RG.Grew w3 W) => (HBO.out.up (Grow3 HB3.out (Nat.le_refl _) hW)).b1
  have g2 := fun W (hW : RG.Grew w3 W) => (HBO.out.up (Grow3 HB3.out (Nat.le_refl _) hW)).b2
  have g3 := fun W (hW : RG.Grew w3 W) => (HBO.out.up (Grow3 HB3.out (Nat.le_refl _) hW)).b3
  have g4 := fun W (hW : RG.Grew w3 W) => (HBO.out.up (Grow3 HB3.out (Nat.le_refl _) hW)).b4
  repeat ((first | (refine RG.take (by rfl) (by intro W hW; go_simp; with_reducible rfl) ?_) | (refine RG.skip (by rfl) ?_) | (refine RG.alone_skip (by rfl) ?_)); simp only [Act.put, List.setIfInBounds_toArray, List.set_cons_zero, List.set_cons_succ])
  refine RG.alone (by rfl) (fun K hK => ?_)
  go_simp
  refine (HRU.out _ HB3.out).mono ?_
  rintro e w4 ⟨rfl, bb4⟩
  go_simp
  refine hK.out _ _ bb4 ?_
  clear hK K g0 g1 g2 g3 g4
  have HB4 := Lib.hid (HB3.out.trans (bb4.mono HB3.out.size))
  have g0 := fun W (hW : RG.Grew w4 W) => (HBO.out.up (Grow3 HB4.out (Nat.le_refl _) hW)).b0
  have g1 := fun W (hW : RG.Grew w4 W) => (HBO.out.up (Grow3 HB4.out (Nat.le_refl _) hW)).b1
  have g2 := fun W (hW : RG.Grew w4 W) => (HBO.out.up (Grow3 HB4.out (Nat.le_refl _) hW)).b2
  have g3 := fun W (hW : RG.Grew w4 W) => (HBO.out.up (Grow3 HB4.out (Nat.le_refl _) hW)).b3
  have g4 := fun W (hW : RG.Grew w4 W) => (HBO.out.up (Grow3 HB4.out (Nat.le_refl _) hW)).b4
  repeat ((first | (refine RG.take (by rfl) (by intro W hW; go_simp; with_reducible rfl) ?_) | (refine RG.skip (by rfl) ?_) | (refine RG.alone_skip (by rfl) ?_)); simp only [Act.put, List.setIfInBounds_toArray, List.set_cons_zero, List.set_cons_succ])
  refine RG.alone (by rfl) (fun K hK => ?_)
  go_simp
  refine (HST.out _ HB4.out).mono ?_
  rintro e w5 ⟨rfl, bb5⟩
  go_simp
  refine hK.out _ _ bb5 ?_
  clear hK K g0 g1 g2 g3 g4
  have HB5 := Lib.hid (HB4.out.trans (bb5.mono HB4.out.size))
  have g0 := fun W (hW : RG.Grew w5 W) => (HBO.out.up (Grow3 HB5.out (Nat.le_refl _) hW)).b0
  have g1 := fun W (hW : RG.Grew w5 W) => (HBO.out.up (Grow3 HB5.out (Nat.le_refl _) hW)).b1
  have g2 := fun W (hW : RG.Grew w5 W) => (HBO.out.up (Grow3 HB5.out (Nat.le_refl _) hW)).b2
  have g3 := fun W (hW : RG.Grew w5 W) => (HBO.out.up (Grow3 HB5.out (Nat.le_refl _) hW)).b3
  have g4 := fun W (hW : RG.Grew w5 W) => (HBO.out.up (Grow3 HB5.out (Nat.le_refl _) hW)).b4
  repeat ((first | (refine RG.take (by rfl) (by intro W hW; go_simp; with_reducible rfl) ?_) | (refine RG.skip (by rfl) ?_) | (refine RG.alone_skip (by rfl) ?_)); simp only [Act.put, List.setIfInBounds_toArray, List.set_cons_zero, List.set_cons_succ])
  refine RG.alone (by rfl) (fun K hK => ?_)
  go_simp
  refine (HDU.out _ HB5.out).mono ?_
  rintro e w6 ⟨rfl, bb6⟩
  go_simp
  refine hK.out _ _ bb6 ?_
  clear hK K g0 g1 g2 g3 g4
  have HB6 := Lib.hid (HB5.out.trans (bb6.mono HB5.out.size))
  have g0 := fun W (hW : RG.Grew w6 W) => (HBO.out.up (Grow3 HB6.out (Nat.le_refl _) hW)).b0
  have g1 := fun W (hW : RG.Grew w6 W) => (HBO.out.up (Grow3 HB6.out (Nat.le_refl _) hW)).b1
  have g2 := fun W (hW : RG.Grew w6 W) => (HBO.out.up (Grow3 HB6.out (Nat.le_refl _) hW)).b2
  have g3 := fun W (hW : RG.Grew w6 W) => (HBO.out.up (Grow3 HB6.out (Nat.le_refl _) hW)).b3
  have g4 := fun W (hW : RG.Grew w6 W) => (HBO.out.up (Grow3 HB6.out (Nat.le_refl _) hW)).b4
  repeat ((first | (refine RG.take (by rfl) (by intro W hW; go_simp; with_reducible rfl) ?_) | (refine RG.skip (by rfl) ?_) | (refine RG.alone_skip (by rfl) ?_)); simp only [Act.put, List.setIfInBounds_toArray, List.set_cons_zero, List.set_cons_succ])
  refine RG.alone (by rfl) (fun K hK => ?_)
  go_simp
  refine (HRD.out _ HB6.out).mono ?_
  rintro e w7 ⟨rfl, bb7⟩
  go_simp
  refine hK.out _ _ bb7 ?_
  clear hK K g0 g1 g2 g3 g4
  have HB7 := Lib.hid (HB6.out.trans (bb7.mono HB6.out.size))
  have g0 := fun W (hW : RG.Grew w7 W) => (HBO.out.up (Grow3 HB7.out (Nat.le_refl _) hW)).b0
  have g1 := fun W (hW : RG.Grew w7 W) => (HBO.out.up (Grow3 HB7.out (Nat.le_refl _) hW)).b1
  have g2 := fun W (hW : RG.Grew w7 W) => (HBO.out.up (Grow3 HB7.out (Nat.le_refl _) hW)).b2
  have g3 := fun W (hW : RG.Grew w7 W) => (HBO.out.up (Grow3 HB7.out (Nat.le_refl _) hW)).b3
  have g4 := fun W (hW : RG.Grew w7 W) => (HBO.out.up (Grow3 HB7.out (Nat.le_refl _) hW)).b4
  repeat ((first | (refine RG.take (by rfl) (by intro W hW; go_simp; with_reducible rfl) ?_) | (refine RG.skip (by rfl) ?_) | (refine RG.alone_skip (by rfl) ?_)); simp only [Act.put, List.setIfInBounds_toArray, List.set_cons_zero, List.set_cons_succ])
  refine RG.alone (by rfl) (fun K hK => ?_)
  go_simp
  refine (HLI.out _ HB7.out).mono ?_
  rintro e w8 ⟨v8, rfl, t8, bb8⟩
  go_simp
  refine hK.out _ _ bb8 ?_
  clear hK K g0 g1 g2 g3 g4
  have HB8 := Lib.hid (HB7.out.trans (bb8.mono HB7.out.size))
  have g0 := fun W (hW : RG.Grew w8 W) => (HBO.out.up (Grow3 HB8.out (Nat.le_refl _) hW)).b0
  have g1 := fun W (hW : RG.Grew w8 W) => (HBO.out.up (Grow3 HB8.out (Nat.le_refl _) hW)).b1
  have g2 := fun W (hW : RG.Grew w8 W) => (HBO.out.up (Grow3 HB8.out (Nat.le_refl _) hW)).b2
  have g3 := fun W (hW : RG.Grew w8 W) => (HBO.out.up (Grow3 HB8.out (Nat.le_refl _) hW)).b3
  have g4 := fun W (hW : RG.Grew w8 W) => (HBO.out.up (Grow3 HB8.out (Nat.le_refl _) hW)).b4
  repeat ((first | (refine RG.take (by rfl) (by intro W hW; go_simp; with_reducible rfl) ?_) | (refine RG.skip (by rfl) ?_) | (refine RG.alone_skip (by rfl) ?_)); simp only [Act.put, List.setIfInBounds_toArray, List.set_cons_zero, List.set_cons_succ])
  refine RG.alone (by rfl) (fun K hK => ?_)
  go_simp
  refine (HRL.out _ HB8.out).mono ?_
  rintro e w9 ⟨v9, rfl, t9, bb9⟩
  go_simp
  refine hK.out _ _ bb9 ?_
  clear hK K g0 g1 g2 g3 g4
  have HB9 := Lib.hid (HB8.out.trans (bb9.mono HB8.out.size))
  have g0 := fun W (hW : RG.Grew w9 W) => (HBO.out.up (Grow3 HB9.out (Nat.le_refl _) hW)).b0
  have g1 := fun W (hW : RG.Grew w9 W) => (HBO.out.up (Grow3 HB9.out (Nat.le_refl _) hW)).b1
  have g2 := fun W (hW : RG.Grew w9 W) => (HBO.out.up (Grow3 HB9.out (Nat.le_refl _) hW)).b2
  have g3 := fun W (hW : RG.Grew w9 W) => (HBO.out.up (Grow3 HB9.out (Nat.le_refl _) hW)).b3
  have g4 := fun W (hW : RG.Grew w9 W) => (HBO.out.up (Grow3 HB9.out (Nat.le_refl _) hW)).b4
  repeat ((first | (refine RG.take (by rfl) (by intro W hW; go_simp; with_reducible rfl) ?_) | (refine RG.skip (by rfl) ?_) | (refine RG.alone_skip (by rfl) ?_)); simp only [Act.put, List.setIfInBounds_toArray, List.set_cons_zero, List.set_cons_succ])
  refine RG.alone (by rfl) (fun K hK => ?_)
  go_simp
  refine (samen_any v8 v9 ns _ (t8.below bb9) t9).mono ?_
  rintro e w10 ⟨rfl, bb10⟩
  go_simp
  refine hK.out _ _ bb10 ?_
  clear hK K g0 g1 g2 g3 g4
  have HB10 := Lib.hid (HB9.out.trans (bb10.mono HB9.out.size))
  have g0 := fun W (hW : RG.Grew w10 W) => (HBO.out.up (Grow3 HB10.out (Nat.le_refl _) hW)).b0
  have g1 := fun W (hW : RG.Grew w10 W) => (HBO.out.up (Grow3 HB10.out (Nat.le_refl _) hW)).b1
  have g2 := fun W (hW : RG.Grew w10 W) => (HBO.out.up (Grow3 HB10.out (Nat.le_refl _) hW)).b2
  have g3 := fun W (hW : RG.Grew w10 W) => (HBO.out.up (Grow3 HB10.out (Nat.le_refl _) hW)).b3
  have g4 := fun W (hW : RG.Grew w10 W) => (HBO.out.up (Grow3 HB10.out (Nat.le_refl _) hW)).b4
  repeat ((first | (refine RG.take (by rfl) (by intro W hW; go_simp; with_reducible rfl) ?_) | (refine RG.skip (by rfl) ?_) | (refine RG.alone_skip (by rfl) ?_)); simp only [Act.put, List.setIfInBounds_toArray, List.set_cons_zero, List.set_cons_succ])
  refine RG.done ?_
  clear g0 g1 g2 g3 g4 bb3 bb4 bb5 bb6 bb7 bb8 bb9 bb10 t8 t9 HU HRU HST HDU HRD HLI HRL HB2 HBD HB3 HB4 HB5 HB6 HB7 HB8 HB9
  have hz := HB10.out.size
  have HB0 : Hid (Below w.heap.size w w10) := HB10
  have b0 := (HBO.out.up HB10.out).b0
  have hzf := zeroFileR
  unfold maxLen at hcm
  obtain ⟨st, hst⟩ : ∃ b, d.stopped = b := ⟨_, rfl⟩
  have HSTD := Lib.hid hst
  clear hst
  go_wp2_with fail
  go_loopw [9] (fun i wr => ∃ k : Nat, k ≤ d.L.length ∧ i = .int .i64 k ∧ Hid (Below w.heap.size w wr)) (fun i _ => d.L.length - (intOf i).toNat)
  case atStart => exact ⟨0, by omega, rfl, HB0⟩
  case round =>
    obtain ⟨k, hk, rfl, HB⟩ := hrel
    clear HB0 b0 HB10 hz
    have hsz := HB.out.size
    have c0 := (HBO.out.up HB.out).b0
    have c1 := (HBO.out.up HB.out).b1
    have c2 := (HBO.out.up HB.out).b2
    have c3 := (HBO.out.up HB.out).b3
    have c4 := (HBO.out.up HB.out).b4
    rw [HSTD.out] at c4
    by_cases hlt : k < d.L.length
    · have t1 : decide ((k : Int) < (d.L.length : Int)) = true := by simp; omega
      cases st with
      | true =>
        clear c0 c2 c3
        go_wp2_with fail
        go_ret
        exact ⟨rfl, HB.out⟩
      | false =>
        obtain ⟨f, hf⟩ : ∃ f, d.L[k]? = some f := ⟨d.L[k], List.getElem?_eq_getElem hlt⟩
        have hfm := List.mem_of_getElem? hf
        obtain ⟨b, off, vb, rfl, hbl, hvb, x0, x1, x2⟩ := HL.out.at_ hf
        have x0 := (HB.out.cell (p := ⟨b, off + k * 3, none⟩) (by show b < _; omega)).trans x0
        have x1 := (HB.out.cell (p := ⟨b, off + k * 3 + 1, none⟩) (by show b < _; omega)).trans x1
        have x2 := (HB.out.cell (p := ⟨b, off + k * 3 + 2, none⟩) (by show b < _; omega)).trans x2
        obtain ⟨pb, capb, rfl, hpc, hpm⟩ := hvb.shape
        unfold maxLen at hpm
        unfold strV at x0
        have HVB := Lib.hid (hvb.below HB.out)
        have HR := Lib.hid (HRF.out f hfm HSTD.out)
        have HD := Lib.hid (HDF.out f hfm)
        have hfb := HBY.out f hfm
        obtain ⟨SF, hSF⟩ : ∃ s : ByteArray, (⟨f.name.toArray⟩ : ByteArray) = s := ⟨_, rfl⟩
        rw [hSF] at x0 HR HD
        obtain ⟨fb, hfb2⟩ : ∃ m, f.b.length = m := ⟨_, rfl⟩
        rw [hfb2] at x1 HR hfb hpc
        clear hf hfm hSF hvb
        go_wp2_with fail
        obtain ⟨wa, hwa⟩ : ∃ W, wr.alloc (.cells #[.string SF, .slice pb fb capb, .int .i64 (f.sure : Int)] 48) = W := ⟨_, rfl⟩
        rw [hwa]
        have hba : Below wr.heap.size wr wa := by rw [← hwa]; exact (Below.refl _ _).alloc (Nat.le_refl _) _
        have hca : wa.heap[wr.heap.size]? = some (.cells #[.string SF, .slice pb fb capb, .int .i64 (f.sure : Int)] 48 (0, 0)) := by rw [← hwa]; exact heap_alloc_new _ _
        have hla : wr.heap.size < wa.heap.size := by rw [← hwa]; simp
        have HBA := Lib.hid (HB.out.trans (hba.mono hsz))
        have HVA := Lib.hid (show BIn w.heap.size wa (.slice pb fb capb) f.b from by rw [← hfb2]; exact (HVB.out.below (hba.mono hsz)).1)
        clear hwa hba x0 x1 x2 c0 c1 c2 c3 c4
        have hwr : IntKind.i64.wrap ((fb : Int) + 1) = (fb : Int) + 1 := by rw [IntKind.wrap_i64]; omega
        refine RG.begin_ [(0, true), (1, true), (2, true), (3, true), (4, true), (5, true), (6, true), (7, true), (8, true), (9, true), (10, false), (11, true), (12, true), (14, true), (13, true), (15, true)] (by kernel_rfl) (by kernel_rfl) rfl (by kernel_rfl) (fun _ _ d _ _ h => by cases d <;> exact h) ?_
        simp only [RG.ordered, List.map_cons, List.map_nil, List.getElem?_toArray, List.getElem?_cons_succ, List.getElem?_cons_zero]
        obtain ⟨wd, hwd⟩ : ∃ wd, wa.drew = wd := ⟨_, rfl⟩
        have HBD : Hid (Below w.heap.size w wd) := Lib.hid (by rw [← hwd]; exact HBA.out.drew)
        have hcd : wd.heap[wr.heap.size]? = some (.cells #[.string SF, .slice pb fb capb, .int .i64 (f.sure : Int)] 48 (0, 0)) := by rw [← hwd]; exact hca
        have hld : wr.heap.size < wd.heap.size := by rw [← hwd]; exact hla
        have HVD := Lib.hid (show BIn w.heap.size wd (.slice pb fb capb) f.b from by rw [← hwd]; exact HVA.out.below (Below.refl _ _).drew)
        rw [hwd]
        clear hwd hca hla
        have g0 := fun W (hW : RG.Grew wd W) => (HBO.out.up (Grow3 HBD.out (Nat.le_refl _) hW)).b0
        have m0 := fun W (hW : RG.Grew wd W) => (show W.cell? ⟨wr.heap.size, 0, none⟩ = some (.string SF) from (hW.cell (p := ⟨wr.heap.size, 0, none⟩) hld).trans (by rw [cell_of_row _ _ 0 _ _ _ hcd]; rfl))
        have m1 := fun W (hW : RG.Grew wd W) => (show W.cell? ⟨wr.heap.size, 1, none⟩ = some (.slice pb fb capb) from (hW.cell (p := ⟨wr.heap.size, 1, none⟩) hld).trans (by rw [cell_of_row _ _ 1 _ _ _ hcd]; rfl))
        repeat ((first | (refine RG.take (by rfl) (by intro W hW; go_simp; with_reducible rfl) ?_) | (refine RG.skip (by rfl) ?_) | (refine RG.alone_skip (by rfl) ?_)); simp only [Act.put, List.setIfInBounds_toArray, List.set_cons_zero, List.set_cons_succ])
        refine RG.alone (by rfl) (fun K hK => ?_)
        go_simp
        refine (HR.out _ HBD.out).mono ?_
        rintro e w11 ⟨v11, rfl, hr11, bb11⟩
        go_simp
        refine hK.out _ _ bb11 ?_
        clear hK K g0 m0 m1
        repeat ((first | (refine RG.take (by rfl) (by intro W hW; go_simp; with_reducible rfl) ?_) | (refine RG.skip (by rfl) ?_) | (refine RG.alone_skip (by rfl) ?_)); simp only [Act.put, List.setIfInBounds_toArray, List.set_cons_zero, List.set_cons_succ])
        refine RG.done ?_
        have HB11 := Lib.hid (HBD.out.trans (bb11.mono HBD.out.size))
        have hc11 := (bb11.block _ hld).trans hcd
        have hl11 := Nat.lt_of_lt_of_le hld bb11.size
        have HV11 := Lib.hid (HVD.out.below (bb11.mono HBD.out.size))
        clear hcd hld bb11 HR
        go_wp2_with fail
        refine RG.begin_ [(0, true), (1, true), (2, true), (3, true), (4, true), (5, true), (6, true), (7, true), (8, true), (9, true), (10, true), (11, true), (12, true), (13, true), (14, true), (15, true), (16, true), (18, true), (19, true), (17, false), (20, true), (21, true)] (by kernel_rfl) (by kernel_rfl) rfl (by kernel_rfl) (fun _ _ d _ _ h => by cases d <;> exact h) ?_
        simp only [RG.ordered, List.map_cons, List.map_nil, List.getElem?_toArray, List.getElem?_cons_succ, List.getElem?_cons_zero]
        obtain ⟨we, hwe⟩ : ∃ wd, w11.drew = wd := ⟨_, rfl⟩
        have hbe : Below w11.heap.size w11 we := by rw [← hwe]; exact (Below.refl _ _).drew
        have HBE : Hid (Below w.heap.size w we) := Lib.hid (HB11.out.trans (hbe.mono HB11.out.size))
        have hce := (hbe.block _ hl11).trans hc11
        have hle := Nat.lt_of_lt_of_le hl11 hbe.size
        have HVE := Lib.hid (HV11.out.below (hbe.mono HB11.out.size))
        have HRE := Lib.hid (hr11.below hbe)
        rw [hwe]
        clear hwe hc11 hl11 hr11 hbe
        have g0 := fun W (hW : RG.Grew we W) => (HBO.out.up (Grow3 HBE.out (Nat.le_refl _) hW)).b0
        have m0 := fun W (hW : RG.Grew we W) => (show W.cell? ⟨wr.heap.size, 0, none⟩ = some (.string SF) from (hW.cell (p := ⟨wr.heap.size, 0, none⟩) hle).trans (by rw [cell_of_row _ _ 0 _ _ _ hce]; rfl))
        have m1 := fun W (hW : RG.Grew we W) => (show W.cell? ⟨wr.heap.size, 1, none⟩ = some (.slice pb fb capb) from (hW.cell (p := ⟨wr.heap.size, 1, none⟩) hle).trans (by rw [cell_of_row _ _ 1 _ _ _ hce]; rfl))
        have m2 := fun W (hW : RG.Grew we W) => (show W.cell? ⟨wr.heap.size, 2, none⟩ = some (.int .i64 (f.sure : Int)) from (hW.cell (p := ⟨wr.heap.size, 2, none⟩) hle).trans (by rw [cell_of_row _ _ 2 _ _ _ hce]; rfl))
        have e1 := fun W (hW : RG.Grew we W) => (BRow.below HRE.out hW).conv
        have e2 := fun W (hW : RG.Grew we W) => (HVE.out.below (hW.mono HBE.out.size)).conv
        repeat ((first | (refine RG.take (by rfl) (by intro W hW; go_simp; with_reducible rfl) ?_) | (refine RG.skip (by rfl) ?_) | (refine RG.alone_skip (by rfl) ?_)); simp only [Act.put, List.setIfInBounds_toArray, List.set_cons_zero, List.set_cons_succ])
        refine RG.alone (by rfl) (fun K hK => ?_)
        go_simp
        refine (HD.out _ HBE.out).mono ?_
        rintro e w12 ⟨rfl, bb12⟩
        go_simp
        refine hK.out _ _ bb12 ?_
        clear hK K g0 m0 m1 m2 e1 e2
        repeat ((first | (refine RG.take (by rfl) (by intro W hW; go_simp; with_reducible rfl) ?_) | (refine RG.skip (by rfl) ?_) | (refine RG.alone_skip (by rfl) ?_)); simp only [Act.put, List.setIfInBounds_toArray, List.set_cons_zero, List.set_cons_succ])
        refine RG.done ?_
        have HB12 := Lib.hid (HBE.out.trans (bb12.mono HBE.out.size))
        clear bb12 hce hle
        go_wp2_with fail
        go_roundw
        case rel => exact ⟨k + 1, by omega, by go_num, HB12⟩
        case measure => simp [intOf]; omega
    · have t1 : decide ((k : Int) < (d.L.length : Int)) = false := by simp; omega
      clear c0 c2 c3 c4
      go_wp2_with fail
      go_ret
      exact ⟨rfl, HB.out⟩
end Go.Proofs.Ytlphleajgdibgaa.DK
