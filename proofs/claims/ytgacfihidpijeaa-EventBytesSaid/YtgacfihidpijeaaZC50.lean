/-
  EventBytes, walked. No condition. The law EventBytes returns true for every input: the bytes of any event behind others, and the event that stands first in any bytes, the code tells as the reference does. No condition.
-/
import Derived.Test.YtgacfihidpijeaaZC31
import Derived.Test.YtgacfihidpijeaaZC32
import Derived.Test.YtgacfihidpijeaaZC33
import Derived.Test.YtgacfihidpijeaaZC37
import Derived.Test.YtgacfihidpijeaaZC48
import Derived.Test.YtgacfihidpijeaaZC49
set_option linter.unusedVariables false
namespace Go.Proofs.Ytgacfihidpijeaa.EV
open Go Go.RowKit Go.Proofs.Ytgacfihidpijeaa.MM Go.Proofs.Ytgacfihidpijeaa.EM Go.Proofs.Ytgacfihidpijeaa.VM
open Go.Proofs.Ytgacfihidpijeaa.VP

set_option maxRecDepth 100000 in
set_option maxHeartbeats 4000000 in
theorem bytes_walk (b : Value) (l : List UInt8) (z : Int) (u : Value) (fs : List Fld) (w : World) (hb : BRow w b l) (hr : RAny fldC w u fs) (h0 : -9223372036854775808 ≤ z) (h1 : z ≤ 9223372036854775807) :
    Calls Try.prog 5 #[b, .agg #[.int .i64 z, u]] w fun e w' => e = .returned (.bool true) ∧ Below w.heap.size w w' := by
  have hmx : Try.prog.follows .mixedOrders = true := by kernel_rfl
  obtain ⟨p, cap, rfl, hlc, hcm, _⟩ := hr.shape
  unfold maxLen at hcm
  have hbx := box_below w z (.slice p fs.length cap)
  have HL := Lib.hid (light_any z _ fs _ (hr.below hbx))
  have HR := Lib.hid hr
  have HB := Lib.hid hb
  have HBX := Lib.hid hbx
  clear hr hbx hb
  go_enter Try.func5, Try.ntmps5
  go_wp2_with fail
  refine HL.out.mono ?_
  rintro e w1 ⟨b1, rfl, hb1⟩
  obtain ⟨c0, c1, hbw⟩ := box_in hb1
  have HB1 := Lib.hid hb1
  have HBW1 := Lib.hid hbw
  clear hb1 HL
  cases b1 with
  | false =>
    clear hbw
    go_wp2_with fail
    refine (awake_any _).mono ?_
    rintro e w2 ⟨rfl, hb2⟩
    have HB2 := Lib.hid (HBW1.out.trans (hb2.mono HBW1.out.size))
    clear hb2
    go_wp2_with fail
    go_ret
    exact ⟨rfl, HB2.out⟩
  | true =>
    go_wp2_with fail
    refine (lcut_any w.heap.size b l w1 (BIn.below HB.out HBW1.out)).mono ?_
    rintro e w1' ⟨u1, rfl, hu1, rfl⟩
    obtain ⟨L, hL⟩ : ∃ L, cutL l = L := ⟨_, rfl⟩
    have hLl : L.length ≤ 700 := by rw [← hL]; exact cutL_len l
    rw [hL] at hu1
    have HU1 := Lib.hid hu1
    have hs1 := hbw.size
    clear hbw hu1 hL HB
    go_wp2_with fail
    refine (cput_any u1 L z _ fs w1' (HU1.out.row hs1) (by omega) (HR.out.below HBW1.out) h0 h1).mono ?_
    rintro e w2 ⟨x2, rfl, ho2, hb2⟩
    have HO2 := Lib.hid ho2
    have HBB2 := Lib.hid (HB1.out.trans (hb2.mono HB1.out.size))
    have HBW2 := Lib.hid (HBW1.out.trans (hb2.mono HBW1.out.size))
    obtain ⟨d0, d1, _⟩ := box_in HBB2.out
    have HU2 := Lib.hid (HU1.out.below (hb2.mono hs1))
    clear ho2 hb2 c0 c1 HB1 HBW1 HU1
    go_wp2_with fail
    refine (rcheck_any z _ fs w2 (HR.out.below HBW2.out)).mono ?_
    rintro e w3 ⟨rfl, hb3⟩
    have HBB3 := Lib.hid (HBB2.out.trans (hb3.mono HBB2.out.size))
    have HBW3 := Lib.hid (HBW2.out.trans (hb3.mono HBW2.out.size))
    have HO3 := Lib.hid (OwnB.keep HO2.out hb3)
    have HU3 := Lib.hid (HU2.out.below (hb3.mono HBW2.out.size))
    obtain ⟨c, hc⟩ : ∃ c, checkE (z, fs) = c := ⟨_, rfl⟩
    rw [hc]
    obtain ⟨d0, d1, _⟩ := box_in HBB3.out
    by_cases hz : c = 0
    · subst hz
      have HC := Lib.hid hc
      have hok := checkE_ok.1 hc
      have h16 : fs.length ≤ 16 := hok.1
      have hx : ∀ f ∈ fs, f.1.length ≤ 4096 ∧ f.2.length ≤ 4096 := fun f hf => ⟨Nat.le_trans (name_len (hok.2 f hf).1) (by omega), (hok.2 f hf).2⟩
      have hfl := fits fs.length [] fs z h16 hx (by simp) fs.length
      rw [List.take_length, List.nil_append] at hfl
      change (bytesE (z, fs)).length ≤ 1001000000 at hfl
      have hpb : putB L (z, fs) = L ++ bytesE (z, fs) := by unfold putB; rw [if_pos hc]
      have HRB := Lib.hid (fun W (h : RAny fldC W (.slice p fs.length cap) fs) => rbytese_any z _ fs W h h0 h1 h16 hx)
      obtain ⟨M, hM⟩ : ∃ M, bytesE (z, fs) = M := ⟨_, rfl⟩
      rw [hM] at hpb HRB hfl
      rw [hpb] at HO3
      go_wp2_with fail
      refine RK.begin_ (T := fun _ => True) [(0, true), (1, true), (2, true), (3, false), (4, true), (5, true), (6, true)] (by kernel_rfl) (by kernel_rfl) rfl (by kernel_rfl) (fun _ _ d _ _ h => by cases d <;> exact h) ?_
      simp only [RK.ordered, List.map_cons, List.map_nil, List.getElem?_toArray, List.getElem?_cons_succ, List.getElem?_cons_zero]
      obtain ⟨wd, hwd⟩ : ∃ wd, w3.drew = wd := ⟨_, rfl⟩
      have hbd : Below w3.heap.size w3 wd := by rw [← hwd]; exact (Below.refl _ _).drew
      have G := Lib.hid (fun W (hW : Kep (fun _ => True) wd W) => (show (convert 40 9 u1).run Try.prog W = .ok (.string ⟨L.toArray⟩) W ∧ W.cell? ⟨w.heap.size, 0, none⟩ = some (.int .i64 z) ∧ W.cell? ⟨w.heap.size, 1, none⟩ = some (.slice p fs.length cap) from by
        have hb := hbd.trans ((hW.below (Nat.le_refl _) (fun _ _ => trivial)).mono hbd.size)
        have hbb := HBB3.out.trans (hb.mono HBB3.out.size)
        exact ⟨BIn.conv (HU3.out.below (hb.mono HBW3.out.size)), (box_in hbb).1, (box_in hbb).2.1⟩))
      have HRD := Lib.hid (HRB.out wd (HR.out.below (HBW3.out.trans (hbd.mono HBW3.out.size))))
      have HBD := Lib.hid hbd
      rw [hwd]
      clear hwd hbd hok hx hpb d0 d1 hM
      repeat (refine RK.take (by rfl) (by intro W hW; obtain ⟨f1, f2, f3⟩ := G.out W hW; go_simp; with_reducible rfl) ?_; simp only [Act.put, List.setIfInBounds_toArray, List.set_cons_zero, List.set_cons_succ])
      refine RK.alone (by rfl) (fun K hK => ?_)
      go_simp
      refine HRD.out.mono ?_
      rintro e w4 ⟨v4, rfl, ho4, hb4⟩
      go_simp
      refine hK.out _ _ (kep_below _ hb4) ?_
      clear hK K HRD G
      have G := Lib.hid (fun W (hW : Kep (fun _ => True) w4 W) => BIn.conv (BRow.below ho4.brow (hW.below (Nat.le_refl _) (fun _ _ => trivial))))
      have h34 : Below w3.heap.size w3 w4 := HBD.out.trans (hb4.mono HBD.out.size)
      have HBB4 := Lib.hid (HBB3.out.trans (h34.mono HBB3.out.size))
      have HBW4 := Lib.hid (HBW3.out.trans (h34.mono HBW3.out.size))
      have HO4 := Lib.hid (OwnB.keep HO3.out h34)
      have HU4 := Lib.hid (HU3.out.below (h34.mono HBW3.out.size))
      have hcat := bytes_cat L M
      have hno : ¬ 9223372036854775807 < L.length + M.length := by omega
      clear ho4 hb4 h34 HBD HBB3 HBW3 HO3 HU3
      repeat (refine RK.take (by rfl) (by intro W hW; have f1 := G.out W hW; go_simp; with_reducible rfl) ?_; simp only [Act.put, List.setIfInBounds_toArray, List.set_cons_zero, List.set_cons_succ])
      refine RK.done ?_
      clear G
      go_wp2_with fail
      refine (cget_any u1 L w4 (HU4.out.row HBW4.out.size) (by omega)).mono ?_
      rintro e w5 ⟨ug, vg, rfl, hug, hvg, hb5⟩
      have hgi := rget_in w.heap.size u1 L
      obtain ⟨⟨⟨zg, fg⟩, rg, eg⟩, hG⟩ : ∃ G, getR L = G := ⟨_, rfl⟩
      rw [hG] at hug hvg hgi ⊢
      have HGI := Lib.hid hgi
      dsimp only at hug hvg ⊢
      obtain ⟨pg, cg, rfl, _⟩ := hug.shape
      have n0 := (new_two w5 (.int .i64 zg) (.slice pg fg.length cg) 24).1
      have n1 := (new_two w5 (.int .i64 zg) (.slice pg fg.length cg) 24).2
      have ha5 : Below w5.heap.size w5 (w5.alloc (.cells #[.int .i64 zg, .slice pg fg.length cg] 24)) := (Below.refl _ _).alloc (Nat.le_refl _) _
      obtain ⟨w6, hw6⟩ : ∃ w6, w5.alloc (.cells #[.int .i64 zg, .slice pg fg.length cg] 24) = w6 := ⟨_, rfl⟩
      rw [hw6] at n0 n1 ha5
      have hs6 : w6.heap.size = w5.heap.size + 1 := by rw [← hw6]; simp
      have h46 := hb5.trans (ha5.mono hb5.size)
      have HW6 := Lib.hid hw6
      have N6 := Lib.hid (And.intro n0 n1)
      have HUG6 := Lib.hid (RAny.below hug.any ha5)
      have HVG6 := Lib.hid (BRow.below hvg.brow ha5)
      have HO6 := Lib.hid (BRow.below HO4.out.brow h46)
      have HBB6 := Lib.hid (HBB4.out.trans (h46.mono HBB4.out.size))
      have HU6 := Lib.hid (HU4.out.below (h46.mono HBW4.out.size))
      have hW6 : w.heap.size ≤ w6.heap.size := Nat.le_trans HBW4.out.size h46.size
      clear hug hvg hb5 ha5 h46 hw6 hgi hG n0 n1 HO4 HBB4 HU4 HBW4
      go_wp2_with fail
      rw [HW6.out]
      refine (HGI.out w6 HU6.out hW6).mono ?_
      rintro e w7 ⟨uh, vh, rfl, huh, hvh, hb7⟩
      dsimp only at huh hvh ⊢
      obtain ⟨ph, ch, rfl, _⟩ := huh.shape
      have n0 := (new_two w7 (.int .i64 zg) (.slice ph fg.length ch) 24).1
      have n1 := (new_two w7 (.int .i64 zg) (.slice ph fg.length ch) 24).2
      have ha7 : Below w7.heap.size w7 (w7.alloc (.cells #[.int .i64 zg, .slice ph fg.length ch] 24)) := (Below.refl _ _).alloc (Nat.le_refl _) _
      obtain ⟨w8, hw8⟩ : ∃ w8, w7.alloc (.cells #[.int .i64 zg, .slice ph fg.length ch] 24) = w8 := ⟨_, rfl⟩
      rw [hw8] at n0 n1 ha7
      have hs8 : w8.heap.size = w7.heap.size + 1 := by rw [← hw8]; simp
      have h68 := hb7.trans (ha7.mono hb7.size)
      have HW8 := Lib.hid hw8
      have N8 := Lib.hid (And.intro n0 n1)
      have hx5 : w5.heap.size < w6.heap.size := by omega
      have hs68 := h68.size
      have M8 := Lib.hid (And.intro ((h68.cell (p := ⟨w5.heap.size, 0, none⟩) hx5).trans N6.out.1) ((h68.cell (p := ⟨w5.heap.size, 1, none⟩) hx5).trans N6.out.2))
      have HUG8 := Lib.hid (RAny.below HUG6.out h68)
      have HUH8 := Lib.hid (RAny.below huh.any ha7)
      have HVG8 := Lib.hid (BRow.below HVG6.out h68)
      have HVH8 := Lib.hid (BRow.below (hvh.row (Nat.le_trans hW6 hb7.size)) ha7)
      have HO8 := Lib.hid (BRow.below HO6.out h68)
      have HBB8 := Lib.hid (HBB6.out.trans (h68.mono HBB6.out.size))
      obtain ⟨d0, d1, hbw8⟩ := box_in HBB8.out
      have HBW8 := Lib.hid hbw8
      have e1 := BIn.conv HO8.out
      rw [← HW8.out] at e1 d0 d1
      clear huh hvh hb7 ha7 h68 hw8 n0 n1 HUG6 HVG6 HO6 HBB6 HU6 hbw8 HGI
      go_wp2_with fail
      rw [HW8.out]
      clear e1
      refine (rcheck_any z _ fs w8 (HR.out.below HBW8.out)).mono ?_
      rintro e w9 ⟨rfl, hb9⟩
      rw [HC.out]
      have hs9 := hb9.size
      have hx7 : w7.heap.size < w8.heap.size := by omega
      have hx5 : w5.heap.size < w8.heap.size := by omega
      have m0 := (hb9.cell (p := ⟨w5.heap.size, 0, none⟩) hx5).trans M8.out.1
      have m1 := (hb9.cell (p := ⟨w5.heap.size, 1, none⟩) hx5).trans M8.out.2
      have n0 := (hb9.cell (p := ⟨w7.heap.size, 0, none⟩) hx7).trans N8.out.1
      have n1 := (hb9.cell (p := ⟨w7.heap.size, 1, none⟩) hx7).trans N8.out.2
      have HUG9 := Lib.hid (RAny.below HUG8.out hb9)
      have HUH9 := Lib.hid (RAny.below HUH8.out hb9)
      have HVG9 := Lib.hid (BRow.below HVG8.out hb9)
      have HVH9 := Lib.hid (BRow.below HVH8.out hb9)
      have HBW9 := Lib.hid (HBW8.out.trans (hb9.mono HBW8.out.size))
      clear hb9 HUG8 HUH8 HVG8 HVH8 HO8 HBB8 HBW8 M8 N8 d0 d1
      go_wp2_with fail
      refine (rsame_any zg zg _ _ fg fg w9 HUG9.out HUH9.out).mono ?_
      rintro e w10 ⟨rfl, hb10⟩
      rw [decide_eq_true (rfl : (zg, fg) = (zg, fg))]
      have e2 := BIn.conv (BRow.below HVG9.out hb10)
      have e3 := BIn.conv (BRow.below HVH9.out hb10)
      have HBW10 := Lib.hid (HBW9.out.trans (hb10.mono HBW9.out.size))
      clear hb10 HUG9 HUH9 HVG9 HVH9 HBW9 m0 m1 n0 n1
      go_wp2_with fail
      refine (awake_any _).mono ?_
      rintro e w11 ⟨rfl, hb11⟩
      have HEND := Lib.hid (HBW10.out.trans (hb11.mono HBW10.out.size))
      clear hb11 e2 e3
      go_wp2_with fail
      go_ret
      exact ⟨rfl, HEND.out⟩
    · have hpb0 : putB L (z, fs) = [] := by unfold putB; rw [if_neg (by rw [hc]; exact hz)]
      have t1 : (c == 0) = false := by rw [beq_eq_false_iff_ne]; exact hz
      rw [hpb0] at HO3
      have HBB4 := HBB3
      have HBW4 := HBW3
      have HO4 := HO3
      have HU4 := HU3
      have HC := Lib.hid hc
      clear HBB3 HBW3 HO3 HU3 hpb0 d0 d1 hc
      go_wp2_with fail
      refine (cget_any u1 L w3 (HU4.out.row HBW4.out.size) (by omega)).mono ?_
      rintro e w5 ⟨ug, vg, rfl, hug, hvg, hb5⟩
      have hgi := rget_in w.heap.size u1 L
      obtain ⟨⟨⟨zg, fg⟩, rg, eg⟩, hG⟩ : ∃ G, getR L = G := ⟨_, rfl⟩
      rw [hG] at hug hvg hgi ⊢
      have HGI := Lib.hid hgi
      dsimp only at hug hvg ⊢
      obtain ⟨pg, cg, rfl, _⟩ := hug.shape
      have n0 := (new_two w5 (.int .i64 zg) (.slice pg fg.length cg) 24).1
      have n1 := (new_two w5 (.int .i64 zg) (.slice pg fg.length cg) 24).2
      have ha5 : Below w5.heap.size w5 (w5.alloc (.cells #[.int .i64 zg, .slice pg fg.length cg] 24)) := (Below.refl _ _).alloc (Nat.le_refl _) _
      obtain ⟨w6, hw6⟩ : ∃ w6, w5.alloc (.cells #[.int .i64 zg, .slice pg fg.length cg] 24) = w6 := ⟨_, rfl⟩
      rw [hw6] at n0 n1 ha5
      have hs6 : w6.heap.size = w5.heap.size + 1 := by rw [← hw6]; simp
      have h46 := hb5.trans (ha5.mono hb5.size)
      have HW6 := Lib.hid hw6
      have N6 := Lib.hid (And.intro n0 n1)
      have HUG6 := Lib.hid (RAny.below hug.any ha5)
      have HVG6 := Lib.hid (BRow.below hvg.brow ha5)
      have HO6 := Lib.hid (BRow.below HO4.out.brow h46)
      have HBB6 := Lib.hid (HBB4.out.trans (h46.mono HBB4.out.size))
      have HU6 := Lib.hid (HU4.out.below (h46.mono HBW4.out.size))
      have hW6 : w.heap.size ≤ w6.heap.size := Nat.le_trans HBW4.out.size h46.size
      clear hug hvg hb5 ha5 h46 hw6 hgi hG n0 n1 HO4 HBB4 HU4 HBW4
      go_wp2_with fail
      rw [HW6.out]
      refine (HGI.out w6 HU6.out hW6).mono ?_
      rintro e w7 ⟨uh, vh, rfl, huh, hvh, hb7⟩
      dsimp only at huh hvh ⊢
      obtain ⟨ph, ch, rfl, _⟩ := huh.shape
      have n0 := (new_two w7 (.int .i64 zg) (.slice ph fg.length ch) 24).1
      have n1 := (new_two w7 (.int .i64 zg) (.slice ph fg.length ch) 24).2
      have ha7 : Below w7.heap.size w7 (w7.alloc (.cells #[.int .i64 zg, .slice ph fg.length ch] 24)) := (Below.refl _ _).alloc (Nat.le_refl _) _
      obtain ⟨w8, hw8⟩ : ∃ w8, w7.alloc (.cells #[.int .i64 zg, .slice ph fg.length ch] 24) = w8 := ⟨_, rfl⟩
      rw [hw8] at n0 n1 ha7
      have hs8 : w8.heap.size = w7.heap.size + 1 := by rw [← hw8]; simp
      have h68 := hb7.trans (ha7.mono hb7.size)
      have HW8 := Lib.hid hw8
      have N8 := Lib.hid (And.intro n0 n1)
      have hx5 : w5.heap.size < w6.heap.size := by omega
      have hs68 := h68.size
      have M8 := Lib.hid (And.intro ((h68.cell (p := ⟨w5.heap.size, 0, none⟩) hx5).trans N6.out.1) ((h68.cell (p := ⟨w5.heap.size, 1, none⟩) hx5).trans N6.out.2))
      have HUG8 := Lib.hid (RAny.below HUG6.out h68)
      have HUH8 := Lib.hid (RAny.below huh.any ha7)
      have HVG8 := Lib.hid (BRow.below HVG6.out h68)
      have HVH8 := Lib.hid (BRow.below (hvh.row (Nat.le_trans hW6 hb7.size)) ha7)
      have HO8 := Lib.hid (BRow.below HO6.out h68)
      have HBB8 := Lib.hid (HBB6.out.trans (h68.mono HBB6.out.size))
      obtain ⟨d0, d1, hbw8⟩ := box_in HBB8.out
      have HBW8 := Lib.hid hbw8
      have e1 := BIn.conv HO8.out
      rw [← HW8.out] at e1 d0 d1
      clear huh hvh hb7 ha7 h68 hw8 n0 n1 HUG6 HVG6 HO6 HBB6 HU6 hbw8 HGI
      go_wp2_with fail
      rw [HW8.out]
      clear e1
      refine (rcheck_any z _ fs w8 (HR.out.below HBW8.out)).mono ?_
      rintro e w9 ⟨rfl, hb9⟩
      rw [HC.out]
      have hs9 := hb9.size
      have hx7 : w7.heap.size < w8.heap.size := by omega
      have hx5 : w5.heap.size < w8.heap.size := by omega
      have m0 := (hb9.cell (p := ⟨w5.heap.size, 0, none⟩) hx5).trans M8.out.1
      have m1 := (hb9.cell (p := ⟨w5.heap.size, 1, none⟩) hx5).trans M8.out.2
      have n0 := (hb9.cell (p := ⟨w7.heap.size, 0, none⟩) hx7).trans N8.out.1
      have n1 := (hb9.cell (p := ⟨w7.heap.size, 1, none⟩) hx7).trans N8.out.2
      have HUG9 := Lib.hid (RAny.below HUG8.out hb9)
      have HUH9 := Lib.hid (RAny.below HUH8.out hb9)
      have HVG9 := Lib.hid (BRow.below HVG8.out hb9)
      have HVH9 := Lib.hid (BRow.below HVH8.out hb9)
      have HBW9 := Lib.hid (HBW8.out.trans (hb9.mono HBW8.out.size))
      clear hb9 HUG8 HUH8 HVG8 HVH8 HO8 HBB8 HBW8 M8 N8 d0 d1
      go_wp2_with fail
      refine (rsame_any zg zg _ _ fg fg w9 HUG9.out HUH9.out).mono ?_
      rintro e w10 ⟨rfl, hb10⟩
      rw [decide_eq_true (rfl : (zg, fg) = (zg, fg))]
      have e2 := BIn.conv (BRow.below HVG9.out hb10)
      have e3 := BIn.conv (BRow.below HVH9.out hb10)
      have HBW10 := Lib.hid (HBW9.out.trans (hb10.mono HBW9.out.size))
      clear hb10 HUG9 HUH9 HVG9 HVH9 HBW9 m0 m1 n0 n1
      go_wp2_with fail
      refine (awake_any _).mono ?_
      rintro e w11 ⟨rfl, hb11⟩
      have HEND := Lib.hid (HBW10.out.trans (hb11.mono HBW10.out.size))
      clear hb11 e2 e3
      go_wp2_with fail
      go_ret
      exact ⟨rfl, HEND.out⟩

set_option maxRecDepth 100000 in
theorem bytes_call (b : Value) (l : List UInt8) (cs0 : Array Value) (e0 : Ev) (W : World) (hb : BRow W b l) (h0 : evC.on (fun _ => True) W cs0.toList e0) (hg : FitEv e0) :
    Calls Try.prog 5 #[b, .agg cs0] W fun e W' => e = .returned (.bool true) ∧ Below W.heap.size W W' := by
  obtain ⟨u, rfl, hu⟩ := ev_cells h0
  obtain ⟨⟨g0, g1⟩, _⟩ := hg
  exact bytes_walk b l e0.1 u e0.2 W hb hu g0 g1
end Go.Proofs.Ytgacfihidpijeaa.EV
set_option linter.unusedVariables false
namespace Go.Proofs.Ytgacfihidpijeaa.EF3
open Go.ChangeShapes Go.WideShapes Go.ChangeAt Go.RowKit Go.Proofs.Ytgacfihidpijeaa.MM
open Go.ChangeMaps (open_string shut_string)

set_option maxRecDepth 100000 in
theorem contract (H : Type) (enc : TypeId × Value → H) (W : World) (args : Array Value) (ds gs : List (DataW H)) (before : List MemPlace)
    (hval : ∀ (j : Nat) t v, Try.f5.params[j]? = some t → args[j]? = some v → Value.okWide Try.prog W .any 0 t v)
    (hW : DataW.Whole enc Try.prog Try.f5.params.toList Rows.eventBytesSpec.vars false W args.toList ds gs before) :
    Calls Try.prog 5 args W fun e W' => ∃ v, e = .returned v ∧ Rows.eventBytesSpec.post enc Try.prog Try.f5 false true false false W args v W' := by
  have hW' := hW
  obtain ⟨p, q, hA0, hV, rfl, hfz, hnd⟩ := hW
  have hA : DataW.TrodAll enc Try.prog W 0 (fun _ => true) true Try.f5.params.toList args.toList ds p := hA0
  rw [Try.params5] at hA hval
  obtain ⟨v0, vs0, d0, ds0, p0, q0, hargs, rfl, rfl, h0, r0⟩ := trodAll_cons hA
  obtain ⟨v1, vs1, d1, ds1, p1, q1, rfl, rfl, rfl, h1, r1⟩ := trodAll_cons r0
  obtain ⟨rfl, rfl, rfl⟩ := trodAll_nil r1
  obtain rfl : args = #[v0, v1] := by cases args; simp_all
  obtain ⟨rfl, rfl⟩ := trodVars_none hV
  obtain ⟨a0, len0, cap0, rfl⟩ := okWide_slice Try.underlying40 (hval 0 40 v0 rfl rfl)
  have k0 := h0
  have lt0 : ∀ x ∈ p0, x.block < W.heap.size := by obtain ⟨m, hm⟩ := k0; exact DataW.trod_lt m _ _ _ hm
  obtain ⟨l0, b0⟩ := argBytes Try.underlying40 Try.underlying5 (by kernel_rfl) h0
  have k1 := h1
  have lt1 : ∀ x ∈ p1, x.block < W.heap.size := by obtain ⟨m, hm⟩ := k1; exact DataW.trod_lt m _ _ _ hm
  obtain ⟨cs1, e1, rfl, b1, g1⟩ := argC_struct EV.reads_ev Try.underlying24 (hval 1 24 v1 rfl rfl) h1
  clear hA0
  refine (EV.bytes_call (.slice a0 len0 cap0) l0 cs1 e1 W b0 b1 g1).mono fun e W' ⟨he, bel⟩ => ?_
  subst he
  exact ⟨_, rfl, _, _, _, [], _, [], hW', trodAll_mk1 (shut_bool Try.underlying4 _), (trodAll_cons_mk (Below.trod laidOut (by kernel_rfl) (of_decide_eq_true (by kernel_rfl)) k0 bel lt0) (trodAll_cons_mk (Below.trod laidOut (by kernel_rfl) (of_decide_eq_true (by kernel_rfl)) k1 bel lt1) trodAll_mk0)), rfl, bel.frame _, fun h => by cases h⟩

set_option maxRecDepth 100000 in
theorem lifted (os : Os) (started : os.Started) (H : Type) (enc : TypeId × Value → H) :
    ReturnsInHanded {} Try.checked os 5 .any (Rows.eventBytesSpec.pre6 enc Try.prog Try.f5 Rows.eventBytesRow.domain false) (Rows.eventBytesSpec.post enc Try.prog Try.f5 false true false false) := by
  refine returnsInHanded_of_change (C := Try.checked) own started (by kernel_rfl) Try.func5
    (ChangeSpec.witness6 (enc := enc) (C := Try.checked) false ⟨#[], #[.slice none 0 0, .agg #[.int .i64 0, .slice none 0 0]], []⟩ 8 (by kernel_rfl) (by kernel_rfl) (by kernel_rfl) (by kernel_rfl)) ?_
  intro W base args ds gs before hval hW _ _
  exact contract H enc W args ds gs before hval hW

theorem said : Rows.EventBytesSaid :=
  OpenClaim.holds_of_wide 5 Try.f5 rfl rfl rfl rfl rfl rfl rfl ⟨rfl, rfl, rfl, rfl, rfl⟩ rfl rfl rfl rfl rfl (by kernel_rfl) Try.func5 (by kernel_rfl)
    (of_decide_eq_true (by kernel_rfl)) (by unfold Func.isWrapper; first | (rw [if_pos (by decide +kernel)]; kernel_rfl) | (rw [if_neg (by decide +kernel)]; exact ⟨rfl, rfl⟩))
    (fun os started H enc _ => lifted os started H enc)
end Go.Proofs.Ytgacfihidpijeaa.EF3
namespace Go.Proofs.Ytgacfihidpijeaa
theorem eventBytes_holds : Rows.EventBytesSaid := EF3.said
#print axioms eventBytes_holds
end Go.Proofs.Ytgacfihidpijeaa
