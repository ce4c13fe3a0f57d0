/-
  The code's closure that tells posts, one by one. Condition: fewer than 2^40 bytes, Docs below 2^30.
-/
import Derived.Test.YtdgjbhejokmeoaaPstHd
import Derived.Test.YtdgjbhejokmeoaaPstForm
import Derived.Test.YtdgjbhejokmeoaaRegK
set_option linter.unusedVariables false
namespace Go.Proofs.Ytdgjbhejokmeoaa.PW
open Go.RowKit Go.Proofs.Ytdgjbhejokmeoaa.MM Go.Proofs.Ytdgjbhejokmeoaa.PM Go.Proofs.Ytdgjbhejokmeoaa.VM

theorem wp_make_full {P : Program} (w : World) {o : Oper} {a : Act} {K : Act → World → Prop} {Q : Exit → Act → World → Prop} (l c : Operand) (t : TypeId) (hop : o.op = Op.makeSlice t l c)
    (base : Nat) (e : TypeId) (i : TypeInfo) (z : Value) (size : Nat) (h1 : P.underlying t = some (.slice e)) (h2 : P.info? e = some i) (h3 : i.zero = some z) (h4 : i.size = size)
    (kl kc : IntKind) (n : Nat) (hl : a.eval l = .int kl n) (hc : a.eval c = .int kc n) (b2 : i.bytes * n ≤ 281474976710656) (b3 : n ≤ maxLen) (b4 : base ≤ w.heap.size)
    (hK : ∀ w', w'.ownsRow base e size (.slice (some ⟨w.heap.size, 0, none⟩) n n) n (madeCells z.cells (n * size)).toList → w.grownBy w' none → K (a.put o.dst (.slice (some ⟨w.heap.size, 0, none⟩) n n)) w') : o.wp P a w K Q := by
  obtain ⟨w', hrun, r1, r2⟩ := run_make_full (P := P) w base t e i z size h1 h2 h3 h4 kl kc n b2 b3 b4
  unfold Oper.wp
  simp [execOp, hop, hl, hc, hrun, Result.andThen]
  exact hK w' r1 r2
theorem infoPost2 : (Try.prog.info? 47).map (·.size) = some 2 := by kernel_rfl
/-- What the next post is. -/
def NextLeft (B g q : Nat) (N : Int) (l : List UInt8) (o : Bool) (w : World) (e : Ending) (w' : World) : Prop :=
  ∃ d qs l' o' pv, e = .returned (.agg #[.int .i64 d, pv]) ∧ PSt N l o d qs l' o' ∧ Rd B w' g l' o' ∧ w'.heap[q]? = some (.cells #[.int .i64 (d + 1)] 3 (0, 0)) ∧ OwnI w.heap.size w' pv qs ∧ Kep (fun b => b ≠ g ∧ b ≠ q) w w'

set_option maxRecDepth 100000 in
set_option maxHeartbeats 4000000 in
theorem next_any (B g tb q : Nat) (l : List UInt8) (o : Bool) (N : Int) (w : World) (h : Rd B w g l o) (hB : B ≤ g) (ht : w.heap[tb]? = some (.cells #[.pointer (some ⟨g, 0, none⟩)] 86 (0, 0))) (htg : tb ≠ g) (hq : w.heap[q]? = some (.cells #[.int .i64 N] 3 (0, 0))) (hqg : q ≠ g) (hqt : q ≠ tb) (hBq : B ≤ q) (h0 : 0 ≤ N) (h1 : N ≤ 1000000) (hl : l.length ≤ 1000000000) :
    Calls Try.prog 57 #[.pointer (some ⟨tb, 0, none⟩), .pointer (some ⟨q, 0, none⟩)] w (NextLeft B g q N l o w) := by
  obtain ⟨i0, hi, hz0, hz1, hz2⟩ := info_parts infoInt
  have htl := (Array.getElem?_eq_some_iff.1 ht).1
  have hql := (Array.getElem?_eq_some_iff.1 hq).1
  have hgl := h.lt
  -- the box
  have hal : Below w.heap.size w (w.alloc (.cells #[.int .i64 0, .slice none 0 0] 47)) := (Below.refl _ _).alloc (Nat.le_refl _) _
  obtain ⟨W1, hW1⟩ : ∃ W, w.alloc (.cells #[.int .i64 0, .slice none 0 0] 47) = W := ⟨_, rfl⟩
  have hbb : W1.heap[w.heap.size]? = some (.cells #[.int .i64 0, .slice none 0 0] 47) := by rw [← hW1]; exact heap_alloc_new _ _
  have hs1 : w.heap.size + 1 = W1.heap.size := by rw [← hW1]; simp
  rw [hW1] at hal
  have hr1 := h.keep (kep_below (fun _ => True) hal) trivial (fun _ _ => trivial) (by omega)
  have ht1 := (hal.block tb htl).trans ht
  have hq1 := (hal.block q hql).trans hq
  have hris := rrising_any B g l o N 65536 W1 hr1 hB h0 (by omega) (by omega) (by omega)
  rw [show (65536 : Int) - 1 - N = 65535 - N by omega] at hris
  obtain ⟨r1, hr⟩ : ∃ r, numSt 0 (65535 - N) l o = r := ⟨_, rfl⟩
  have hbeg := qst_begin h0 l o r1 _ hr rfl
  rw [hr] at hris
  have hlen1 := (numSt_bound 0 (65535 - N) l o).2
  rw [hr] at hlen1
  obtain ⟨r2, hr2⟩ : ∃ r, numSt 1 (min 1048576 (r1.2.1.length : Int)) r1.2.1 r1.2.2 = r := ⟨_, rfl⟩
  have HN2 := Lib.hid (fun W (hW : Rd B W g r1.2.1 r1.2.2) => number_any B g r1.2.1 r1.2.2 1 (min 1048576 (r1.2.1.length : Int)) W hW hB (by omega) (by omega))
  rw [hr2] at HN2 hbeg
  obtain ⟨x, l1, o1⟩ := r1
  obtain ⟨m, l2, o2⟩ := r2
  dsimp only at hris hbeg hlen1 HN2
  unfold NumLeft at HN2
  dsimp only at HN2
  obtain ⟨hq0, hz, hm, hdm⟩ := hbeg
  obtain ⟨d, hd⟩ : ∃ d, N + (x : Int) = d := ⟨_, rfl⟩
  rw [hd] at hris hq0 hdm
  have hd0 : N ≤ d := by omega
  have HQ0 := Lib.hid hq0
  have HZ := Lib.hid hz
  have HRIS := Lib.hid hris
  have HDM := Lib.hid hdm
  have HD0 := Lib.hid hd0
  have hdb : d ≤ 1000000 := by omega
  have hd00 : 0 ≤ d := by omega
  have f0 : W1.cell? ⟨tb, 0, none⟩ = some (.pointer (some ⟨g, 0, none⟩)) := by rw [cell_of_row W1 tb 0 _ _ _ ht1]; rfl
  have f1 : W1.cell? ⟨q, 0, none⟩ = some (.int .i64 N) := by rw [cell_of_row W1 q 0 _ _ _ hq1]; rfl
  have HT1 := Lib.hid ht1
  have HQ1 := Lib.hid hq1
  have HBB := Lib.hid hbb
  have HAL := Lib.hid hal
  have HTG := Lib.hid htg
  have HQG := Lib.hid hqg
  have HQT := Lib.hid hqt
  have HTL := Lib.hid htl
  have HQL := Lib.hid hql
  have HGL := Lib.hid hgl
  have HS1 := Lib.hid hs1
  have HW1 := Lib.hid hW1
  have hl1 : l1.length ≤ 1000000000 := by omega
  clear h ht hq hr1 ht1 hq1 hbb hal hq0 hz hris hr hr2 hdm hd hd0 htg hqg hqt htl hql hgl hs1 hlen1
  go_enter Try.func57, Try.ntmps57
  go_wp2_with fail
  refine HRIS.out.mono ?_
  rintro e w2 ⟨rfl, hR2, hK2⟩
  have ht2 := (hK2.block tb (by have := HTL.out; have := HS1.out; omega) HTG.out).trans HT1.out
  have hq2 := (hK2.block q (by have := HQL.out; have := HS1.out; omega) HQG.out).trans HQ1.out
  have hb2 := (hK2.block w.heap.size (by have := HS1.out; omega) (by have := HGL.out; omega)).trans HBB.out
  have g0 : w2.cell? ⟨q, 0, none⟩ = some (.int .i64 N) := by rw [cell_of_row w2 q 0 _ _ _ hq2]; rfl
  have g1 : w2.frozen? ⟨q, 0, none⟩ = false := frozen_of_row w2 q 0 _ _ hq2
  -- the store
  have hq3 := heap_setCell_same w2 q 0 _ _ (.int .i64 (d + 1)) hq2
  have hk3 : Kep (fun b => b ≠ q) w2 (w2.setCell ⟨q, 0, none⟩ (.int .i64 (d + 1))) := kep_set (by simp) _
  obtain ⟨W3, hW3⟩ : ∃ W, w2.setCell ⟨q, 0, none⟩ (.int .i64 (d + 1)) = W := ⟨_, rfl⟩
  rw [hW3] at hq3 hk3
  have ht3 := (hk3.block tb (Array.getElem?_eq_some_iff.1 ht2).1 (Ne.symm HQT.out)).trans ht2
  have hb3 := (hk3.block w.heap.size (Array.getElem?_eq_some_iff.1 hb2).1 (by have := HQL.out; omega)).trans hb2
  have hR3 := hR2.keep hk3 (Ne.symm HQG.out) (fun k hk => by omega) (by have := hR2.lt; omega)
  have hK13 : Kep (fun b => b ≠ g ∧ b ≠ q) W1 W3 := (hK2.mono (fun k hk => hk.1)).andThen hk3 (fun k _ hk => hk.2)
  have HW3 := Lib.hid hW3
  have HQ3 := Lib.hid hq3
  have HT3 := Lib.hid ht3
  have HB3 := Lib.hid hb3
  have HR3 := Lib.hid hR3
  have HK13 := Lib.hid hK13
  clear hR2 hK2 ht2 hq2 hb2 hq3 hk3 ht3 hb3 hR3 hK13 f0 f1 HRIS
  have g2 : W3.cell? ⟨tb, 0, none⟩ = some (.pointer (some ⟨g, 0, none⟩)) := by rw [cell_of_row W3 tb 0 _ _ _ HT3.out]; rfl
  go_wp2_with fail
  refine RK.begin_ (T := fun b => b ≠ g) [(0, true), (1, true), (2, true), (3, true), (4, false), (5, true), (6, true), (7, false), (8, false), (9, true)] (by kernel_rfl) (by kernel_rfl) rfl (by kernel_rfl) (fun _ _ d _ _ h => by cases d <;> exact h) ?_
  simp only [RK.ordered, List.map_cons, List.map_nil, List.getElem?_toArray, List.getElem?_cons_succ, List.getElem?_cons_zero]
  obtain ⟨WD, hwd⟩ : ∃ wd, W3.drew = wd := ⟨_, rfl⟩
  rw [hwd]
  have hkd : Kep (fun _ => True) W3 WD := by rw [← hwd]; exact kep_draw _ _
  have hTD := (hkd.block tb (Array.getElem?_eq_some_iff.1 HT3.out).1 trivial).trans HT3.out
  have hQD := (hkd.block q (Array.getElem?_eq_some_iff.1 HQ3.out).1 trivial).trans HQ3.out
  have hBD := (hkd.block w.heap.size (Array.getElem?_eq_some_iff.1 HB3.out).1 trivial).trans HB3.out
  have hRD := HR3.out.keep hkd trivial (fun _ _ => trivial) (by have := HR3.out.lt; omega)
  have hKD := HK13.out.andThen (T := fun _ => True) hkd (fun _ _ _ => trivial)
  have HTD := Lib.hid hTD
  have HQD := Lib.hid hQD
  have HBD := Lib.hid hBD
  have HRD := Lib.hid hRD
  have HKD := Lib.hid hKD
  clear hwd hkd hTD hQD hBD hKD g2 g0 g1 HT3 HQ3 HB3 HR3 HK13
  have hTDl := (Array.getElem?_eq_some_iff.1 HTD.out).1
  have f1 := fun W (hW : Kep (fun b => b ≠ g) WD W) => (hW.cell (b := tb) hTDl HTG.out 0).trans (show WD.cell? ⟨tb, 0, none⟩ = some (.pointer (some ⟨g, 0, none⟩)) by rw [cell_of_row WD tb 0 _ _ _ HTD.out]; rfl)
  obtain ⟨vr, hvr, hvb⟩ := hRD
  have f2 : WD.cell? ⟨g, 0, none⟩ = some vr := by rw [cell_of_row WD g 0 _ _ _ hvr]; rfl
  obtain ⟨pr, cr, rfl, hc1, hc2⟩ := hvb.shape
  unfold maxLen at hc2
  have hmin : (if (l1.length : Int) < 1048576 then (l1.length : Int) else 1048576) = min 1048576 (l1.length : Int) := by split <;> omega
  have hmin2 : (if 1048576 < (l1.length : Int) then 1048576 else (l1.length : Int)) = min 1048576 (l1.length : Int) := by split <;> omega
  obtain ⟨MN, hMN⟩ : ∃ MN, min 1048576 (l1.length : Int) = MN := ⟨_, rfl⟩
  rw [hMN] at hmin hmin2 HN2
  clear hvr hvb
  repeat ((first | (refine RK.take (by rfl) (by intro W hW; go_simp; with_reducible rfl) ?_) | (refine RK.skip (by rfl) ?_) | (refine RK.alone_skip (by rfl) ?_)); simp only [Act.put, List.setIfInBounds_toArray, List.set_cons_zero, List.set_cons_succ])
  refine RK.alone (by rfl) (fun K hK => ?_)
  go_simp
  refine hK.out _ _ (Kep.refl _ _) ?_
  clear hK K
  repeat ((first | (refine RK.take (by rfl) (by intro W hW; go_simp; with_reducible rfl) ?_) | (refine RK.skip (by rfl) ?_) | (refine RK.alone_skip (by rfl) ?_)); simp only [Act.put, List.setIfInBounds_toArray, List.set_cons_zero, List.set_cons_succ])
  refine RK.alone (by rfl) (fun K hK => ?_)
  go_simp
  refine (HN2.out WD HRD.out).mono ?_
  rintro e w5 ⟨rfl, hR5, hK5⟩
  go_simp
  refine hK.out _ _ hK5 ?_
  have hsz5 : w.heap.size ≤ w5.heap.size := by have h1 := HAL.out.size; have h2 := HKD.out.size; have h3 := hK5.size; omega
  have HR5 := Lib.hid hR5
  have HK5 := Lib.hid hK5
  clear hK K f1 f2 hR5 hK5 HN2
  refine RK.alone (by rfl) (fun K hK => ?_)
  refine wp_make_full w5 _ _ 27 rfl w.heap.size 3 i0 (.int .i64 0) 1 Try.underlying27 hi hz0 hz1 .i64 .i64 m rfl rfl (by rw [hz2]; omega) (by unfold maxLen; omega) hsz5 ?_
  intro W6 hown6 hg6
  have hb6 : Below w5.heap.size w5 W6 := (Below.refl _ _).grown hg6 (Nat.le_refl _) (fun k h => by cases h)
  go_simp
  refine hK.out _ _ (kep_below _ hb6) ?_
  have hH6 : HalfI W6 w5.heap.size m [] := halfI_start hown6
  have hT6 := (hb6.block tb (by have := HK5.out.size; omega)).trans ((HK5.out.block tb hTDl HTG.out).trans HTD.out)
  have hQDl := (Array.getElem?_eq_some_iff.1 HQD.out).1
  have hBDl := (Array.getElem?_eq_some_iff.1 HBD.out).1
  have hQ6 := (hb6.block q (by have := HK5.out.size; omega)).trans ((HK5.out.block q hQDl HQG.out).trans HQD.out)
  have hB6 := (hb6.block w.heap.size (by have := HK5.out.size; omega)).trans ((HK5.out.block w.heap.size hBDl (by have := HGL.out; omega)).trans HBD.out)
  have hR6 := HR5.out.keep (kep_below (fun _ => True) hb6) trivial (fun _ _ => trivial) (by have := HR5.out.lt; omega)
  have hK16 : Kep (fun b => b ≠ g ∧ b ≠ q) W1 W6 := (HKD.out.trans (HK5.out.mono (fun k hk => hk.1))).trans (kep_below _ hb6)
  have hPb : w.heap.size < w5.heap.size := by have := HK5.out.size; omega
  have HT6 := Lib.hid hT6
  have HQ6 := Lib.hid hQ6
  have HB6 := Lib.hid hB6
  have HR6 := Lib.hid hR6
  have HH6 := Lib.hid hH6
  have HK16 := Lib.hid hK16
  have hQP : q < w5.heap.size := by have := HQL.out; omega
  have hTP : tb < w5.heap.size := by have := HTL.out; omega
  have hGP : g < w5.heap.size := by have := HGL.out; omega
  clear hK K hown6 hg6 hb6 hT6 hQ6 hB6 hR6 hH6 hK16 HR5 HK5 HTD HQD HBD HRD HKD hTDl hQDl hBDl hi hz0 hz1 hz2 hmin hmin2 hMN hc1 hc2 hl1
  repeat ((first | (refine RK.take (by rfl) (by intro W hW; go_simp; with_reducible rfl) ?_) | (refine RK.skip (by rfl) ?_) | (refine RK.alone_skip (by rfl) ?_)); simp only [Act.put, List.setIfInBounds_toArray, List.set_cons_zero, List.set_cons_succ])
  refine RK.done ?_
  clear hW3 HW3
  have HL0 : Hid (lastP 0 [] = 0) := Lib.hid rfl
  have HKk0 : Hid (Kep (fun b => b ≠ g ∧ b ≠ w5.heap.size) W6 W6) := Lib.hid (Kep.refl _ _)
  obtain ⟨P, hP⟩ : ∃ P, w5.heap.size = P := ⟨_, rfl⟩
  rw [hP] at hPb HH6 hQP hTP hGP HKk0 ⊢
  clear hP hsz5
  go_wp2_with fail
  go_loopw [5, 23] (fun av iv wr => ∃ (k : Nat) (A : Int) (qs : List Int) (lk : List UInt8) (ok : Bool), k ≤ m ∧ iv = .int .i64 k ∧ av = .int .i64 A ∧ 0 ≤ A ∧ A ≤ 1048576 + k ∧ Hid (lastP 0 qs = A) ∧ Hid (QSt N l o d m k qs lk ok) ∧ Hid (m = 0 → ok = true ∧ lk = [] ∧ ∀ p r, ¬ PostAt N l p r) ∧ Hid (Rd B wr g lk ok) ∧ Hid (HalfI wr P m qs) ∧ Hid (Kep (fun b => b ≠ g ∧ b ≠ P) W6 wr)) (fun _ iv _ => m - (intOf iv).toNat)
  case atStart => exact ⟨0, 0, [], l2, o2, by omega, rfl, rfl, by omega, by omega, HL0, HQ0, HZ, HR6, HH6, HKk0⟩
  case round =>
    obtain ⟨k, A, qs, lk, ok, hk, rfl, rfl, hA0, hA1, HL, HQ, HZk, HR, HH, HK⟩ := hrel
    clear HL0 HQ0 HR6 HH6 HKk0
    have hTw := (HK.out.block tb (Array.getElem?_eq_some_iff.1 HT6.out).1 ⟨HTG.out, by omega⟩).trans HT6.out
    by_cases hlt : k < m
    · have t1 : decide ((k : Int) < (m : Int)) = true := by simp; omega
      have f0 : wr.cell? ⟨tb, 0, none⟩ = some (.pointer (some ⟨g, 0, none⟩)) := by rw [cell_of_row wr tb 0 _ _ _ hTw]; rfl
      have hris := rrising_any B g lk ok A 1048576 wr HR.out hB hA0 (by omega) (by omega) (by omega)
      rw [show (1048576 : Int) - 1 - A = 1048575 - A by omega] at hris
      have hst := qst_step HQ.out hlt
      rw [HL.out] at hst
      have hbd := (numSt_bound 0 (1048575 - A) lk ok).1
      obtain ⟨⟨x2, l3, o3⟩, hR2⟩ : ∃ R, numSt 0 (1048575 - A) lk ok = R := ⟨_, rfl⟩
      rw [hR2] at hris hst hbd
      dsimp only at hris hst hbd
      have hA2 : A + (x2 : Int) + 1 ≤ 1048576 + (k + 1 : Nat) := by omega
      have hA3 : A + (x2 : Int) ≤ 3000000 := by omega
      have HRIS := Lib.hid hris
      have HST := Lib.hid hst
      have HQL2 := Lib.hid HQ.out.1
      clear hris hst hbd hR2 hTw
      go_wp2_with fail
      refine HRIS.out.mono ?_
      rintro e w7 ⟨rfl, hR7, hK7⟩
      have hH7 := HH.out.keep hK7 (show P ≠ g by omega)
      obtain ⟨⟨u0, c0⟩, c1⟩ := hH7.cell hlt
      have hH8 := hH7.next (by rw [HQL2.out]; exact hlt) (A + (x2 : Int))
      rw [HQL2.out] at hH8
      have hk8 : Kep (fun b => b ≠ P) w7 (w7.setCell ⟨P, k, none⟩ (.int .i64 (A + (x2 : Int)))) := kep_set (by simp) _
      have hR8 := hR7.keep hk8 (show g ≠ P by omega) (fun j hj => by omega) (by have := hR7.lt; omega)
      have c2 : (w7.setCell ⟨P, k, none⟩ (.int .i64 (A + (x2 : Int)))).cell? ⟨P, k, none⟩ = some (.int .i64 (A + (x2 : Int))) := HalfZ.get (e := 3) hH8 (by rw [List.getElem?_append_right (by rw [HQL2.out]; omega), HQL2.out, Nat.sub_self]; rfl)
      have hK8 := (HK.out.trans (hK7.mono (T := fun b => b ≠ g ∧ b ≠ P) (fun j hj => hj.1))).trans (hk8.mono (T := fun b => b ≠ g ∧ b ≠ P) (fun j hj => hj.2))
      have HH8 := Lib.hid hH8
      have HR8 := Lib.hid hR8
      have HK8 := Lib.hid hK8
      have HL8 : Hid (lastP 0 (qs ++ [A + (x2 : Int)]) = A + (x2 : Int) + 1) := Lib.hid (lastP_snoc _ _ _)
      clear hR7 hK7 hH7 hH8 hk8 hR8 hK8 HRIS HL HQ HR HH HK f0
      go_wp2_with fail
      go_roundw
      case rel => exact ⟨k + 1, A + (x2 : Int) + 1, _, _, _, by omega, by go_num, rfl, by omega, hA2, HL8, HST, Lib.hid (fun e => by omega), HR8, HH8, HK8⟩
      case measure => simp [intOf]; omega
    · obtain rfl : k = m := by omega
      have t1 : decide ((k : Int) < (k : Int)) = false := by simp
      have hBw := (HK.out.block w.heap.size (Array.getElem?_eq_some_iff.1 HB6.out).1 ⟨by have := HGL.out; omega, by omega⟩).trans HB6.out
      have hQw := (HK.out.block q (Array.getElem?_eq_some_iff.1 HQ6.out).1 ⟨HQG.out, by omega⟩).trans HQ6.out
      have b0 : wr.cell? ⟨w.heap.size, 0, none⟩ = some (.int .i64 0) := by rw [cell_of_row wr _ 0 _ _ _ hBw]; rfl
      have b1 : wr.cell? ⟨w.heap.size, 1, none⟩ = some (.slice none 0 0) := by rw [cell_of_row wr _ 1 _ _ _ hBw]; rfl
      have b2 : wr.frozen? ⟨w.heap.size, 0, none⟩ = false := frozen_of_row wr _ 0 _ _ hBw
      have b3 : wr.frozen? ⟨w.heap.size, 1, none⟩ = false := frozen_of_row wr _ 1 _ _ hBw
      have n1 := heap_setCell_same wr w.heap.size 0 _ _ (.int .i64 d) hBw
      have b4 : (wr.setCell ⟨w.heap.size, 0, none⟩ (.int .i64 d)).cell? ⟨w.heap.size, 1, none⟩ = some (.slice none 0 0) := by rw [cell_of_row _ _ 1 _ _ _ n1]; rfl
      have b5 : (wr.setCell ⟨w.heap.size, 0, none⟩ (.int .i64 d)).frozen? ⟨w.heap.size, 1, none⟩ = false := frozen_of_row _ _ 1 _ _ n1
      have n2 := heap_setCell_same _ w.heap.size 1 _ _ (.slice (some ⟨P, 0, none⟩) k k) n1
      have hk9 : Kep (fun b => b ≠ w.heap.size) wr ((wr.setCell ⟨w.heap.size, 0, none⟩ (.int .i64 d)).setCell ⟨w.heap.size, 1, none⟩ (.slice (some ⟨P, 0, none⟩) k k)) := (kep_set (by simp) _).trans (kep_set (by simp) _)
      have hR9 := HR.out.keep hk9 (by have := HGL.out; omega) (fun j hj => by have := HGL.out; omega) (by have := HR.out.lt; omega)
      have hQ9 := (hk9.block q (Array.getElem?_eq_some_iff.1 hQw).1 (by have := HQL.out; omega)).trans hQw
      have hH9 := HH.out.keep hk9 (show P ≠ w.heap.size by omega)
      have hO9 := hH9.own HQ.out.1 (by unfold maxLen; omega) (B := w.heap.size) (by omega)
      have hp := pst_end HQ.out HD0.out HDM.out HZk.out
      have HN2 := Lib.hid n2
      have HR9 := Lib.hid hR9
      have HQ9 := Lib.hid hQ9
      have HO9 := Lib.hid hO9
      have HP := Lib.hid hp
      have HK9 : Hid (Kep (fun b => b ≠ g ∧ b ≠ q) w ((wr.setCell ⟨w.heap.size, 0, none⟩ (.int .i64 d)).setCell ⟨w.heap.size, 1, none⟩ (.slice (some ⟨P, 0, none⟩) k k))) := Lib.hid (by
        have h1 := (kep_below (fun b => b ≠ g ∧ b ≠ q) HAL.out).trans HK16.out
        have h2 := h1.andThen HK.out (fun j hj hs => ⟨hs.1, by omega⟩)
        exact h2.andThen hk9 (fun j hj _ => by omega))
      clear hBw hQw n1 n2 hk9 hR9 hQ9 hH9 hO9 hp HQ HR HH HK HL
      go_wp2_with fail
      refine bodyPost_ret (v := .agg #[.int .i64 d, .slice (some ⟨P, 0, none⟩) k k]) (results_cell_row rfl _ _ w.heap.size 47 _ (0, 0) _ rfl HN2.out Try.underlying47 rfl infoPost2) rfl ⟨d, qs, lk, ok, _, rfl, HP.out, HR9.out, HQ9.out, HO9.out, HK9.out⟩
end Go.Proofs.Ytdgjbhejokmeoaa.PW
