/-
  The code's reader takes an entry. Condition: the term ahead has at most 65 bytes.
-/
import Derived.Test.YtklngjnjnkocmaaZA30
import Derived.Test.YtklngjnjnkocmaaZA20
import Derived.Test.YtklngjnjnkocmaaZA31
import Derived.Test.YtklngjnjnkocmaaZA21
set_option linter.unusedVariables false
namespace Go.Proofs.Ytklngjnjnkocmaa.DT
open Go Go.RowKit Go.Proofs.Ytklngjnjnkocmaa.MM Go.Proofs.Ytklngjnjnkocmaa.DM Go.Proofs.Ytklngjnjnkocmaa.VM

set_option maxRecDepth 100000 in
set_option maxHeartbeats 4000000 in
theorem entr_any (B g : Nat) (A l : List UInt8) (o : Bool) (w : World) (hA : A.length ≤ 65) (h : Rd B w g l o) (hB : B ≤ g) :
    Calls Try.prog 59 #[.pointer (some ⟨g, 0, none⟩), .string ⟨A.toArray⟩] w (Took B g (entV (entSt A l o).1) (entSt A l o).2.1 (entSt A l o).2.2 w) := by
  have hmx : Try.prog.follows .mixedOrders = true := by kernel_rfl
  obtain ⟨R, hR⟩ : ∃ R, w.heap.size = R := ⟨_, rfl⟩
  have hgR : g < R := by rw [← hR]; exact h.lt
  obtain ⟨wa, hwa⟩ : ∃ wa, w.alloc (.cells #[.string ⟨#[]⟩, .int .i64 0, .int .i64 0, .int .i64 0] 42) = wa := ⟨_, rfl⟩
  have HKA : Hid (Kep (fun b => b ≠ g) w wa) := Lib.hid (by rw [← hwa]; exact kep_alloc _ _ _)
  have FR0 : Hid (Four wa R 42 (.string ⟨#[]⟩) (.int .i64 0) (.int .i64 0) (.int .i64 0)) := Lib.hid (by rw [← hwa, ← hR]; exact four_new w 42 _ _ _ _)
  have hra : Rd B wa g l o := h.keep (S := fun _ => True) (by rw [← hwa]; exact kep_alloc _ _ _) trivial (fun _ _ => trivial) (by omega)
  have HSA : Hid (wa.heap.size = R + 1) := Lib.hid (by rw [← hwa, ← hR]; simp)
  -- what is read
  obtain ⟨⟨k, l1, o1⟩, e1⟩ : ∃ s, numSt A.length l o = s := ⟨_, rfl⟩
  have hk : k ≤ A.length := by have := num_le A.length l o; rw [e1] at this; exact this
  obtain ⟨⟨t, l2, o2⟩, e2⟩ : ∃ s, txtSt (65 - (k : Int)) l1 o1 = s := ⟨_, rfl⟩
  have ht : (t.length : Int) ≤ 65 - (k : Int) := by have := txt_len (65 - (k : Int)) l1 o1; rw [e2] at this; dsimp only at this; omega
  obtain ⟨T, hT⟩ : ∃ T, A.take k ++ t = T := ⟨_, rfl⟩
  have hTl : T.length ≤ 65 := by rw [← hT, List.length_append, List.length_take]; omega
  have e3 : termSt A l o = (T, l2, o2) := by unfold termSt; rw [e1]; dsimp only; rw [e2]; dsimp only; rw [hT]
  obtain ⟨⟨l3, o3⟩, e4⟩ : ∃ s, heldSt A l o = s := ⟨_, rfl⟩
  have e5 : (if sharedL A T = k then (l2, o2) else ([], true)) = (l3, o3) := by rw [← e4]; unfold heldSt; rw [e3, e1]
  obtain ⟨⟨a, l4, o4⟩, e6⟩ : ∃ s, numSt 67108864 l3 o3 = s := ⟨_, rfl⟩
  obtain ⟨⟨b, l5, o5⟩, e7⟩ : ∃ s, numSt 67108864 l4 o4 = s := ⟨_, rfl⟩
  obtain ⟨⟨c, l6, o6⟩, e8⟩ : ∃ s, numSt 67108864 l5 o5 = s := ⟨_, rfl⟩
  have hE : entSt A l o = ((T, ((a : Int), ((b : Int), (c : Int)))), l6, o6) := by
    unfold entSt trioSt
    rw [e4, e3]
    dsimp only
    rw [e6]
    dsimp only
    rw [e7]
    dsimp only
    rw [e8]
  rw [hE]
  have HNUM := Lib.hid (fun m l o W (hm : m ≤ 1099511627776) (h : Rd B W g l o) => number_any B g m l o W hm h hB)
  have HTXT := Lib.hid (fun W (h : Rd B W g l1 o1) => text_any B g (65 - (k : Int)) l1 o1 W (by omega) (by omega) h hB)
  have HGO := Lib.hid (fun W (h : Rd B W g l2 o2) => goon_any B g l2 [] o2 (.slice none 0 0) 110 W h hB (BIn.nil_ _ _))
  rw [e2] at HTXT
  have H1 := HNUM.out A.length l o wa (by omega) hra
  rw [e1] at H1
  have H1 := Lib.hid H1
  have HE5 := Lib.hid e5
  have hza := str_sz A
  have hzt := str_sz T
  have HSH := Lib.hid (fun W => shared_any A T W (by omega) (by omega))
  have hcat := text_join (A.take k) t
  have hhead := text_head A k
  have hadd := fun W => run_string_add_sum (P := Try.prog) W ⟨(A.take k).toArray⟩ ⟨t.toArray⟩ (by rw [str_sz, str_sz, List.length_take]; omega)
  rw [hT] at hcat
  simp only [hcat] at hadd
  have hki : (k : Int) ≤ (A.length : Int) := by omega
  have hw65 : IntKind.i64.wrap (65 - (k : Int)) = 65 - (k : Int) := by rw [IntKind.wrap_i64]; omega
  have HWA := Lib.hid hwa
  have HB := Lib.hid hB
  have HGR := Lib.hid hgR
  have H6 := Lib.hid e6
  have H7 := Lib.hid e7
  have H8 := Lib.hid e8
  clear hwa h hra e1 e2 e3 e4 e5 e6 e7 e8 hE hT hB hgR
  go_enter Try.func59, Try.ntmps59
  go_wp2_with fail
  rw [HWA.out]
  refine H1.out.mono ?_
  rintro e w1 ⟨rfl, h1, k1⟩
  have hs1 : R + 1 ≤ w1.heap.size := by have := k1.size; have := HSA.out; omega
  have FR1 := Lib.hid (FR0.out.keep k1 (by have := HGR.out; omega))
  have K1 := Lib.hid (HKA.out.trans k1)
  obtain ⟨wd, hwd⟩ : ∃ wd, w1.drew = wd := ⟨_, rfl⟩
  have R1 : Hid (Rd B wd g l1 o1) := Lib.hid (by rw [← hwd]; exact Rd.keep h1 (S := fun _ => True) (kep_below _ (Below.refl _ _).drew) trivial (fun _ _ => trivial) (by have := HB.out; have := HGR.out; omega))
  have FRD : Hid (Four wd R 42 (.string ⟨#[]⟩) (.int .i64 0) (.int .i64 0) (.int .i64 0)) := Lib.hid (by rw [← hwd]; exact FR1.out.below (Below.refl w1.heap.size _).drew (by omega))
  have KD : Hid (Kep (fun b => b ≠ g) w wd) := Lib.hid (by rw [← hwd]; exact K1.out.trans (kep_below _ (Below.refl _ _).drew))
  have hsd : R + 1 ≤ wd.heap.size := by rw [← hwd]; simpa using hs1
  have HWD := Lib.hid hwd
  clear hwd h1 k1 H1 FR0 FR1 K1 hs1 HKA HWA
  go_wp2_with fail
  refine RK.begin_ (T := fun b => b ≠ g) [(0, true), (1, true), (2, true), (3, true), (4, true), (5, true), (6, false), (7, true), (8, true)] (by kernel_rfl) (by kernel_rfl) rfl (by kernel_rfl) (fun _ _ d _ _ h => by cases d <;> exact h) ?_
  simp only [RK.ordered, List.map_cons, List.map_nil, List.getElem?_toArray, List.getElem?_cons_succ, List.getElem?_cons_zero]
  rw [HWD.out]
  repeat ((first | (refine RK.take (by rfl) (by intro W hW; go_simp; with_reducible rfl) ?_)); simp only [Act.put, List.setIfInBounds_toArray, List.set_cons_zero, List.set_cons_succ])
  refine RK.alone (by rfl) (fun K hK => ?_)
  go_simp
  refine (HTXT.out wd R1.out).mono ?_
  rintro e w2 ⟨rfl, h2, k2⟩
  go_simp
  refine hK.out _ _ k2 ?_
  clear hK K
  have hs2 : R + 1 ≤ w2.heap.size := by have := k2.size; omega
  have FR2 := Lib.hid (FRD.out.keep k2 (by have := HGR.out; omega))
  have K2 := Lib.hid (KD.out.trans k2)
  have R2 := Lib.hid h2
  clear h2 k2 FRD KD R1 hsd
  repeat ((first | (refine RK.take (by rfl) (by intro W hW; go_simp; with_reducible rfl) ?_)); simp only [Act.put, List.setIfInBounds_toArray, List.set_cons_zero, List.set_cons_succ])
  refine RK.done ?_
  obtain ⟨n, hn⟩ : ∃ n, sharedL A T = n := ⟨_, rfl⟩
  rw [hn] at HSH HE5
  have hnb := (sharedL_le A T).1
  rw [hn] at hnb
  clear hn
  rcases Classical.em (n = k) with hs | hs
  case' inl =>
    subst hs
    have he := HE5.out
    rw [if_pos rfl] at he
    obtain ⟨rfl, rfl⟩ := Prod.mk.inj he
    clear he HE5
    go_wp2_with fail
    refine (HSH.out _).mono ?_
    rintro e w3 ⟨rfl, m, hm⟩
    have hk3 : Kep (fun _ => True) w2 w3 := by rw [hm]; exact kep_below _ (MM.below_drewN (Below.refl _ _) m)
    have hs3 : R + 1 ≤ w3.heap.size := by have := hk3.size; omega
    have FR3 := Lib.hid (FR2.out.keep hk3 trivial)
    have K3 := Lib.hid (K2.out.trans (hk3.mono' fun _ _ _ => trivial))
    have R3 := Lib.hid (R2.out.keep hk3 trivial (fun _ _ => trivial) (by have := HB.out; have := HGR.out; omega))
    clear hm hk3 hs2 FR2 K2 R2
  case' inr =>
    have t0 : ((n : Int) != (k : Int)) = true := by rw [bne_iff_ne]; omega
    have he := HE5.out
    rw [if_neg hs] at he
    obtain ⟨rfl, rfl⟩ := Prod.mk.inj he
    clear he HE5 hs
    go_wp2_with fail
    refine (HSH.out _).mono ?_
    rintro e w2b ⟨rfl, m, hm⟩
    have hk3 : Kep (fun _ => True) w2 w2b := by rw [hm]; exact kep_below _ (MM.below_drewN (Below.refl _ _) m)
    have hs3 : R + 1 ≤ w2b.heap.size := by have := hk3.size; omega
    have FR2b := Lib.hid (FR2.out.keep hk3 trivial)
    have K2b := Lib.hid (K2.out.trans (hk3.mono' fun _ _ _ => trivial))
    have HQ := Lib.hid (HGO.out w2b (R2.out.keep hk3 trivial (fun _ _ => trivial) (by have := HB.out; have := HGR.out; omega)))
    clear hm hk3 hs2 FR2 K2 R2
    go_wp2_with fail
    refine HQ.out.mono ?_
    rintro e w3 ⟨rfl, h3, k3⟩
    have hs4 : R + 1 ≤ w3.heap.size := by have := k3.size; omega
    have FR3 := Lib.hid (FR2b.out.keep k3 (by have := HGR.out; omega))
    have K3 := Lib.hid (K2b.out.trans k3)
    have h3' : Rd B w3 g [] true := by have := h3; simpa using this
    have R3 := Lib.hid h3'
    clear h3 h3' k3 hs3 FR2b K2b HQ
  all_goals
    have N4 := HNUM.out 67108864 _ _ w3 (by omega) R3.out
    rw [H6.out] at N4
    have N4 := Lib.hid N4
    go_wp2_with fail
    refine N4.out.mono ?_
    rintro e w4 ⟨rfl, h4, k4⟩
    have hz4 : R + 1 ≤ w4.heap.size := by have := k4.size; omega
    have FR4 := Lib.hid (FR3.out.keep k4 (by have := HGR.out; omega))
    have K4 := Lib.hid (K3.out.trans k4)
    have R4 := Lib.hid h4
    clear h4 k4 FR3 K3 R3 N4
    have N5 := HNUM.out 67108864 _ _ w4 (by omega) R4.out
    rw [H7.out] at N5
    have N5 := Lib.hid N5
    go_wp2_with fail
    refine N5.out.mono ?_
    rintro e w5 ⟨rfl, h5, k5⟩
    have hz5 : R + 1 ≤ w5.heap.size := by have := k5.size; omega
    have FR5 := Lib.hid (FR4.out.keep k5 (by have := HGR.out; omega))
    have K5 := Lib.hid (K4.out.trans k5)
    have R5 := Lib.hid h5
    clear h5 k5 FR4 K4 R4 N5
    have N6 := HNUM.out 67108864 _ _ w5 (by omega) R5.out
    rw [H8.out] at N6
    have N6 := Lib.hid N6
    go_wp2_with fail
    refine N6.out.mono ?_
    rintro e w6 ⟨rfl, h6, k6⟩
    have hz6 : R + 1 ≤ w6.heap.size := by have := k6.size; omega
    have FR6 := Lib.hid (FR5.out.keep k6 (by have := HGR.out; omega))
    have K6 := Lib.hid (K5.out.trans k6)
    have R6 := Lib.hid h6
    clear h6 k6 FR5 K5 R5 N6
    obtain ⟨m1, m2, m3, m4, ⟨k1, k2⟩, ⟨k3, k4⟩, k5, k6⟩ := FR6.out.all (.string ⟨T.toArray⟩) (.int .i64 (a : Int)) (.int .i64 (b : Int))
    have n0 := FR6.out.c0
    have HX := Lib.hid (FR6.out.set (.string ⟨T.toArray⟩) (.int .i64 (a : Int)) (.int .i64 (b : Int)) (.int .i64 (c : Int)))
    have hk7 : Kep (fun b => b ≠ R) w6 _ := kep_set4 (g := R) (.string ⟨T.toArray⟩) (.int .i64 (a : Int)) (.int .i64 (b : Int)) (.int .i64 (c : Int))
    have K7 := Lib.hid (K6.out.andThen hk7 fun i hi _ => by omega)
    have R7 := Lib.hid (R6.out.keep hk7 (by have := HGR.out; omega) (fun k hk => by have := HB.out; have := HGR.out; omega) (by have := HB.out; have := HGR.out; omega))
    clear hk7 FR6 K6 R6
    go_wp2_with fail
    refine bodyPost_ret (results_four1 (p := 4) rfl Try.underlying42 rfl infoEnt _ _ R _ _ _ _ rfl HX.out) rfl ?_
    exact ⟨rfl, R7.out, K7.out⟩
end Go.Proofs.Ytklngjnjnkocmaa.DT
