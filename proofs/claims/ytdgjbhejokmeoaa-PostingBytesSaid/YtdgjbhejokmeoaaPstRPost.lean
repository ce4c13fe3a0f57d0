/-
  The reference's post: the post that stands first. Condition: fewer than 2^30 bytes.
-/
import Derived.Test.YtdgjbhejokmeoaaPstRGet
set_option linter.unusedVariables false
namespace Go.Proofs.Ytdgjbhejokmeoaa.PW
open Go.RowKit Go.Proofs.Ytdgjbhejokmeoaa.MM Go.Proofs.Ytdgjbhejokmeoaa.PM Go.Proofs.Ytdgjbhejokmeoaa.VM

theorem infoPost3 : (Try.prog.info? 47).map (·.size) = some 2 := by kernel_rfl
theorem results_post_two {fn : Func} {p u v : Tmp} (h : fn.results = #[.cell p 47, .tmp u, .tmp v]) (tmps : Array Value) (w : World) (g : Nat) (z : Int) (x : Value)
    (hp : tmps.getD p undef = .pointer (some ⟨g, 0, none⟩)) (hg : w.heap[g]? = some (.cells #[.int .i64 z, x] 47 (0, 0))) :
    (results fn tmps).run Try.prog w = .ok (.tuple #[.agg #[.int .i64 z, x], tmps.getD u undef, tmps.getD v undef]) w := by
  have hp' : tmps[p]?.getD undef = .pointer (some ⟨g, 0, none⟩) := by simpa using hp
  simp [results, h, hp', asAddr, run_loadVar_row w g 47 47 _ (0, 0) _ hg Try.underlying47 rfl infoPost3]
def RPostLeft (B : Nat) (N : Int) (l : List UInt8) (w : World) (e : Ending) (w' : World) : Prop :=
  ∃ z qs x v' l' ok, e = .returned (.tuple #[.agg #[.int .i64 z, x], v', .bool ok]) ∧ BIn B w' v' l' ∧ OwnI w.heap.size w' x qs ∧ Below w.heap.size w w' ∧ qs.length + l'.length ≤ l.length ∧ 0 ≤ z ∧ z ≤ N + 65535 ∧
    ((ok = true ∧ ∀ p r, PostAt N l p r → p = (z, qs) ∧ r = l') ∨ (ok = false ∧ ∀ p r, ¬ PostAt N l p r))
/-- A box of two cells that is written. -/
theorem box_two {w : World} {g : Nat} {u0 u1 : Value} (h : w.heap[g]? = some (.cells #[u0, u1] 47 (0, 0))) (a b : Value) :
    w.cell? ⟨g, 0, none⟩ = some u0 ∧ w.cell? ⟨g, 1, none⟩ = some u1 ∧ w.frozen? ⟨g, 0, none⟩ = false ∧ w.frozen? ⟨g, 1, none⟩ = false ∧
    (w.setCell ⟨g, 0, none⟩ a).cell? ⟨g, 1, none⟩ = some u1 ∧ (w.setCell ⟨g, 0, none⟩ a).frozen? ⟨g, 1, none⟩ = false ∧
    ((w.setCell ⟨g, 0, none⟩ a).setCell ⟨g, 1, none⟩ b).heap[g]? = some (.cells #[a, b] 47 (0, 0)) ∧ Kep (fun c => c ≠ g) w ((w.setCell ⟨g, 0, none⟩ a).setCell ⟨g, 1, none⟩ b) ∧
    (w.setCell ⟨g, 1, none⟩ b).heap[g]? = some (.cells #[u0, b] 47 (0, 0)) ∧ Kep (fun c => c ≠ g) w (w.setCell ⟨g, 1, none⟩ b) := by
  have n1 := heap_setCell_same w g 0 _ _ a h
  have n2 := heap_setCell_same _ g 1 _ _ b n1
  have n3 := heap_setCell_same w g 1 _ _ b h
  exact ⟨by rw [cell_of_row w _ 0 _ _ _ h]; rfl, by rw [cell_of_row w _ 1 _ _ _ h]; rfl, frozen_of_row w _ 0 _ _ h, frozen_of_row w _ 1 _ _ h,
    by rw [cell_of_row _ _ 1 _ _ _ n1]; rfl, frozen_of_row _ _ 1 _ _ n1, n2, (kep_set (by simp) _).trans (kep_set (by simp) _), n3, kep_set (by simp) _⟩

set_option maxRecDepth 100000 in
set_option maxHeartbeats 8000000 in
theorem rpost_in (B : Nat) (v : Value) (l : List UInt8) (a : Int) (w : World) (hv : BIn B w v l) (hB : B ≤ w.heap.size) (hl : l.length ≤ 1000000000) (ha0 : -1 ≤ a) (ha1 : a ≤ 1000000000000) : Calls Try.prog 44 #[v, .int .i64 a] w (RPostLeft B (a + 1) l w) := by
  have hal : Below w.heap.size w (w.alloc (.cells #[.int .i64 0, .slice none 0 0] 47)) := (Below.refl _ _).alloc (Nat.le_refl _) _
  have hbx : (w.alloc (.cells #[.int .i64 0, .slice none 0 0] 47)).heap[w.heap.size]? = some (.cells #[.int .i64 0, .slice none 0 0] 47 (0, 0)) := heap_alloc_new _ _
  have hs1 : (w.alloc (.cells #[.int .i64 0, .slice none 0 0] 47)).heap.size = w.heap.size + 1 := by simp
  obtain ⟨W1, hW1⟩ : ∃ W, w.alloc (.cells #[.int .i64 0, .slice none 0 0] 47) = W := ⟨_, rfl⟩
  rw [hW1] at hal hbx hs1
  have HBX : Hid (∀ W, Below (w.heap.size + 1) W1 W → W.heap[w.heap.size]? = some (.cells #[.int .i64 0, .slice none 0 0] 47 (0, 0))) := Lib.hid (fun W hb => (hb.block w.heap.size (by omega)).trans hbx)
  have FAIL : Hid (∀ W, Below (w.heap.size + 1) W1 W → (∀ p r, ¬ PostAt (a + 1) l p r) → RPostLeft B (a + 1) l w (.returned (.tuple #[.agg #[.int .i64 0, .slice none 0 0], .slice none 0 0, .bool false])) ((W.setCell ⟨w.heap.size, 0, none⟩ (.int .i64 0)).setCell ⟨w.heap.size, 1, none⟩ (.slice none 0 0))) := Lib.hid (fun W hb hn =>
    ⟨0, [], .slice none 0 0, .slice none 0 0, [], false, rfl, BIn.nil_ _ _, OwnI.nil_ _ _, ((hal.trans (hb.mono (Nat.le_succ _))).setCell (p := ⟨w.heap.size, 0, none⟩) (Nat.le_refl _) (.int .i64 0)).setCell (p := ⟨w.heap.size, 1, none⟩) (Nat.le_refl _) (.slice none 0 0), by simp, by omega, by omega, .inr ⟨rfl, hn⟩⟩)
  have hv1 : BIn B W1 v l := hv.below (hal.mono hB)
  have hg1 := rget_in B v l 65535 W1 hv1 (by omega) (by omega)
  have HAL := Lib.hid hal
  have hN : (0 : Int) ≤ a + 1 := by omega
  clear hal hv hbx
  rcases getR_cases 65535 l with ⟨x, l1, h1, e1, hx, hl1⟩ | ⟨h1, e1⟩
  · rw [show ((65535 : Nat) : Int) = 65535 from rfl, e1] at hg1
    have HG1 := Lib.hid hg1
    have HH1 := Lib.hid h1
    clear hg1 e1 h1 hv1
    go_enter Try.func44, Try.ntmps44
    go_wp2_with fail
    refine HG1.out.mono ?_
    rintro e w2 ⟨v2, rfl, hv2, hb2⟩
    dsimp only at hv2 ⊢
    rw [hs1] at hb2
    have HB2 := Lib.hid hb2
    have hs2 := hb2.size
    have hg2 := rget_in B v2 l1 1048576 w2 hv2 (by omega) (by omega)
    clear hb2 HG1 hv2
    rcases getR_cases 1048576 l1 with ⟨m, l2, h2, e2, hm, hl2⟩ | ⟨h2, e2⟩
    · rw [show ((1048576 : Nat) : Int) = 1048576 from rfl, e2] at hg2
      have HG2 := Lib.hid hg2
      have HC := Lib.hid (rpost_cnt hN HH1.out h2)
      clear hg2 e2 h2
      go_wp2_with fail
      refine HG2.out.mono ?_
      rintro e w3 ⟨v3, rfl, hv3, hb3⟩
      dsimp only at hv3 ⊢
      have HB3 := Lib.hid (HB2.out.trans (hb3.mono (by omega)))
      have hs3 := HB3.out.size
      have HV3 := Lib.hid hv3
      obtain ⟨p3, c3, rfl, _, _⟩ := hv3.shape
      obtain ⟨n2, hn2⟩ : ∃ n, l2.length = n := ⟨_, rfl⟩
      have HN2 := Lib.hid hn2
      rw [hn2] at HV3 hl2 ⊢
      clear hb3 hv3 HG2 hn2
      by_cases hlong : n2 < m
      · have HNo := Lib.hid (rpost_long HC.out (by rw [HN2.out]; exact hlong))
        have t1 : decide ((m : Int) > (n2 : Int)) = true := by rw [decide_eq_true_eq]; omega
        obtain ⟨b0, b1, b2, b3, b4, b5, b6, _, _, _⟩ := box_two (HBX.out w3 HB3.out) (.int .i64 0) (.slice none 0 0)
        have BX := Lib.hid b6
        clear b6
        go_wp2_with fail
        refine bodyPost_ret (results_post_two (p := 4) (u := 5) (v := 6) rfl _ _ w.heap.size 0 (.slice none 0 0) rfl BX.out) rfl (FAIL.out w3 HB3.out HNo.out)
      · have t1 : decide ((m : Int) > (n2 : Int)) = false := by rw [decide_eq_false_iff_not]; omega
        obtain ⟨d, hd⟩ : ∃ d, a + 1 + (x : Int) = d := ⟨_, rfl⟩
        have hd0 : 0 ≤ d := by omega
        have hdN : d ≤ a + 1 + 65535 := by omega
        have hw1 : IntKind.i64.wrap (a + 1) = a + 1 := by rw [IntKind.wrap_i64]; omega
        have hw2 : IntKind.i64.wrap (a + 1 + (x : Int)) = d := by rw [IntKind.wrap_i64]; omega
        have hw3 : IntKind.i64.wrap d = d := by rw [IntKind.wrap_i64]; omega
        rw [hd] at HC
        have hal4 : Below w3.heap.size w3 (w3.alloc (.cells #[.int .i64 d, .slice none 0 0] 47)) := (Below.refl _ _).alloc (Nat.le_refl _) _
        have hbx4 : (w3.alloc (.cells #[.int .i64 d, .slice none 0 0] 47)).heap[w3.heap.size]? = some (.cells #[.int .i64 d, .slice none 0 0] 47 (0, 0)) := heap_alloc_new _ _
        have hs4 : (w3.alloc (.cells #[.int .i64 d, .slice none 0 0] 47)).heap.size = w3.heap.size + 1 := by simp
        obtain ⟨pb, hpb⟩ : ∃ p, w3.heap.size = p := ⟨_, rfl⟩
        obtain ⟨W4, hW4⟩ : ∃ W, w3.alloc (.cells #[.int .i64 d, .slice none 0 0] 47) = W := ⟨_, rfl⟩
        rw [hpb] at hal4 hbx4 hs4
        rw [hW4] at hal4 hbx4 hs4
        have HBX4 := Lib.hid hbx4
        have HV4 := Lib.hid (HV3.out.below (hal4.mono (by omega)))
        have HB4 := Lib.hid (HB3.out.trans (hal4.mono (by omega)))
        have HO4 : Hid (OwnI (pb + 1) W4 (.slice none 0 0) []) := Lib.hid (OwnI.nil_ _ _)
        have HL0 : Hid (lastP 0 [] = -1 + 1) := Lib.hid rfl
        have HW4 := Lib.hid hW4
        clear hal4 hbx4 HV3 hW4
        go_wp2_with fail
        rw [HW4.out]
        go_loopw [0, 11, 12] (fun u lv iv wr => ∃ (k : Nat) (A : Int) (qs : List Int) (lk : List UInt8) (pv : Value), k ≤ m ∧ iv = .int .i64 k ∧ lv = .int .i64 A ∧ -1 ≤ A ∧ A ≤ 1048576 * (k : Int) ∧ k + lk.length ≤ n2 ∧ Hid (lastP 0 qs = A + 1) ∧ Hid (qs.length = k) ∧ Hid (CompP (a + 1) l d m k qs lk) ∧ Hid (BIn B wr u lk) ∧ Hid (wr.heap[pb]? = some (.cells #[.int .i64 d, pv] 47 (0, 0))) ∧ Hid (OwnI (pb + 1) wr pv qs) ∧ Hid (Below (w.heap.size + 1) W1 wr) ∧ pb < wr.heap.size) (fun _ _ iv _ => m - (intOf iv).toNat)
        case atStart => exact ⟨0, -1, [], l2, .slice none 0 0, by omega, rfl, rfl, by omega, by omega, by rw [HN2.out]; omega, HL0, Lib.hid rfl, HC, HV4, HBX4, HO4, HB4, by omega⟩
        case round =>
          obtain ⟨k, A, qs, lk, pv, hk, rfl, rfl, hA0, hA1, hkl, HL, HQL, HCk, HV, HBXk, HO, HBk, hpbs⟩ := hrel
          clear HL0 HC HV4 HBX4 HO4 HB4
          have hszB : B ≤ wr.heap.size := by omega
          by_cases hlt : k < m
          · have t2 : decide ((k : Int) < (m : Int)) = true := by simp; omega
            have hg := rget_in B u0 lk 1048575 wr HV.out hszB (by omega)
            rcases getR_cases 1048575 lk with ⟨y, l3, h3, e3, hy, hl3⟩ | ⟨h3, e3⟩
            · rw [show ((1048575 : Nat) : Int) = 1048575 from rfl, e3] at hg
              have hst := compP_step HCk.out hlt h3
              rw [HL.out] at hst
              have hA2 : A + 1 + (y : Int) ≤ 1048576 * ((k + 1 : Nat) : Int) := by omega
              have hkb : (k : Int) ≤ 1000000000 := by omega
              have HG := Lib.hid hg
              have HST := Lib.hid hst
              have HLn : Hid (lastP 0 (qs ++ [A + 1 + (y : Int)]) = A + 1 + (y : Int) + 1) := Lib.hid (lastP_snoc _ _ _)
              have HQLn : Hid ((qs ++ [A + 1 + (y : Int)]).length = k + 1) := Lib.hid (by rw [List.length_append, HQL.out]; rfl)
              clear hg e3 hst h3
              go_wp2_with fail
              refine HG.out.mono ?_
              rintro e w5 ⟨v5, rfl, hv5, hb5⟩
              dsimp only at hv5 ⊢
              have hbx5 := (hb5.block pb hpbs).trans HBXk.out
              obtain ⟨_, c1, _, _, _, _, _, _, _, _⟩ := box_two hbx5 (.int .i64 d) (.slice none 0 0)
              have HV5 := Lib.hid hv5
              have HB5 := Lib.hid (HBk.out.trans (hb5.mono (by have := HBk.out.size; omega)))
              have HO5 := Lib.hid (OwnI.keep HO.out hb5)
              have HBX5 := Lib.hid hbx5
              have hs5 := hb5.size
              have hpb5 : pb + 1 ≤ w5.heap.size := by omega
              clear hv5 hb5 hbx5 HG HV HBXk HO
              go_wp2_with (at_builtin; refine wpList_append_int rfl _ _ rfl (pb + 1) _ qs w5 (A + 1 + (y : Int)) rfl rfl HO5.out rfl (by rw [HQL.out]; omega) hpb5 ?_)
              intro v6 w6 ho6 hb6
              obtain ⟨QS, hQS⟩ : ∃ Q, qs ++ [A + 1 + (y : Int)] = Q := ⟨_, rfl⟩
              rw [hQS] at ho6 HST HLn HQLn
              have hbx6 := (hb6.block pb (Nat.lt_succ_self _)).trans HBX5.out
              obtain ⟨_, d1, _, d2, _, _, _, _, d3, d4⟩ := box_two hbx6 (.int .i64 d) v6
              have hone : v6.oneCell' = true := by
                obtain ⟨p', c', rfl, _⟩ := (OwnI.irow ho6).shape; rfl
              have HBX7 := Lib.hid d3
              have HV7 := Lib.hid ((HV5.out.below (hb6.mono (by omega))).below (d4.below (B := B) (by have := hb6.size; omega) (fun c hc => by omega)))
              have hown7 : OwnI (pb + 1) (w6.setCell ⟨pb, 1, none⟩ v6) v6 QS := by
                refine ⟨ho6.1, ?_⟩
                rcases ho6.2 with h0 | ⟨g, cap, cur, hv, hg, hh, rest⟩
                · exact .inl h0
                · exact .inr ⟨g, cap, cur, hv, hg, by rw [d4.block g (Array.getElem?_eq_some_iff.1 hh).1 (by omega)]; exact hh, rest⟩
              have HO7 := Lib.hid hown7
              have HB7 := Lib.hid ((HB5.out.trans (hb6.mono (by omega))).trans (d4.below (by have := hb6.size; omega) (fun c hc => by omega)))
              have hpb7 : pb < (w6.setCell ⟨pb, 1, none⟩ v6).heap.size := (Array.getElem?_eq_some_iff.1 d3).1
              obtain ⟨pv6, cv6, rfl, _⟩ := (OwnI.irow ho6).shape
              clear ho6 hb6 hbx6 d3 d4 hown7 c1 HO5 HBX5 HV5 hQS
              go_wp2_with fail
              go_roundw
              case rel => exact ⟨k + 1, A + 1 + (y : Int), _, l3, _, by omega, by go_num, rfl, by omega, hA2, by omega, HLn, HQLn, HST, HV7, HBX7, HO7, HB7, hpb7⟩
              case measure => simp [intOf]; omega
            · rw [show ((1048575 : Nat) : Int) = 1048575 from rfl, e3] at hg
              have HG := Lib.hid hg
              have HNo := Lib.hid (compP_none HCk.out hlt h3)
              clear hg e3 h3
              go_wp2_with fail
              refine HG.out.mono ?_
              rintro e w5 ⟨v5, rfl, hv5, hb5⟩
              dsimp only at hv5 ⊢
              have HB5 := Lib.hid (HBk.out.trans (hb5.mono (by have := HBk.out.size; omega)))
              obtain ⟨b0, b1, b2, b3, b4, b5, b6, _, _, _⟩ := box_two (HBX.out w5 HB5.out) (.int .i64 0) (.slice none 0 0)
              have BX := Lib.hid b6
              clear b6 hb5 hv5 HG
              go_wp2_with fail
              refine bodyPost_ret (results_post_two (p := 4) (u := 5) (v := 6) rfl _ _ w.heap.size 0 (.slice none 0 0) rfl BX.out) rfl (FAIL.out w5 HB5.out HNo.out)
          · obtain rfl : k = m := by omega
            have t2 : decide ((k : Int) < (k : Int)) = false := by simp
            have HEnd := Lib.hid (compP_end HCk.out)
            obtain ⟨b0, b1, b2, b3, b4, b5, b6, b7, _, _⟩ := box_two (HBX.out wr HBk.out) (.int .i64 d) pv
            obtain ⟨c0, c1, _, _, _, _, _, _, _, _⟩ := box_two HBXk.out (.int .i64 d) (.slice none 0 0)
            have BX := Lib.hid b6
            have hFin : RPostLeft B (a + 1) l w (.returned (.tuple #[.agg #[.int .i64 d, pv], u0, .bool true])) ((wr.setCell ⟨w.heap.size, 0, none⟩ (.int .i64 d)).setCell ⟨w.heap.size, 1, none⟩ pv) := by
              refine ⟨d, qs, pv, u0, lk, true, rfl, HV.out.below (b7.below hszB (fun c hc => by omega)), ?_, ?_, by rw [HQL.out]; omega, hd0, hdN, .inl ⟨rfl, HEnd.out⟩⟩
              · have ho := HO.out
                refine ⟨ho.1, ?_⟩
                rcases ho.2 with h0 | ⟨g, cap, cur, hv, hg, hh, rest⟩
                · exact .inl h0
                · exact .inr ⟨g, cap, cur, hv, by omega, by rw [b7.block g (Array.getElem?_eq_some_iff.1 hh).1 (by omega)]; exact hh, rest⟩
              · exact (HAL.out.trans (HBk.out.mono (Nat.le_succ _))).trans (b7.below (by have := HAL.out.size; have := HBk.out.size; omega) (fun c hc => by omega))
            have HFin := Lib.hid hFin
            obtain ⟨pv6, cv6, rfl, _⟩ := (OwnI.irow HO.out).shape
            clear b6 b7 hFin HV HBXk HO HBk HCk HL
            go_wp2_with fail
            refine bodyPost_ret (results_post_two (p := 4) (u := 5) (v := 6) rfl _ _ w.heap.size d _ rfl BX.out) rfl HFin.out
    · rw [show ((1048576 : Nat) : Int) = 1048576 from rfl, e2] at hg2
      have HG2 := Lib.hid hg2
      have HNo := Lib.hid (rpost_cnt_none hN HH1.out h2)
      clear hg2 e2 h2
      go_wp2_with fail
      refine HG2.out.mono ?_
      rintro e w3 ⟨v3, rfl, hv3, hb3⟩
      dsimp only at hv3 ⊢
      have HB3 := Lib.hid (HB2.out.trans (hb3.mono (by omega)))
      obtain ⟨b0, b1, b2, b3, b4, b5, b6, _, _, _⟩ := box_two (HBX.out w3 HB3.out) (.int .i64 0) (.slice none 0 0)
      have BX := Lib.hid b6
      clear b6 hb3 hv3 HG2
      go_wp2_with fail
      refine bodyPost_ret (results_post_two (p := 4) (u := 5) (v := 6) rfl _ _ w.heap.size 0 (.slice none 0 0) rfl BX.out) rfl (FAIL.out w3 HB3.out HNo.out)
  · rw [show ((65535 : Nat) : Int) = 65535 from rfl, e1] at hg1
    have HG1 := Lib.hid hg1
    have HNo := Lib.hid (rpost_doc_none hN h1)
    clear hg1 e1 h1 hv1
    go_enter Try.func44, Try.ntmps44
    go_wp2_with fail
    refine HG1.out.mono ?_
    rintro e w2 ⟨v2, rfl, hv2, hb2⟩
    dsimp only at hv2 ⊢
    rw [hs1] at hb2
    have HB2 := Lib.hid hb2
    obtain ⟨b0, b1, b2, b3, b4, b5, b6, _, _, _⟩ := box_two (HBX.out w2 HB2.out) (.int .i64 0) (.slice none 0 0)
    have BX := Lib.hid b6
    clear hb2 HG1 hv2 b6
    go_wp2_with fail
    refine bodyPost_ret (results_post_two (p := 4) (u := 5) (v := 6) rfl _ _ w.heap.size 0 (.slice none 0 0) rfl BX.out) rfl (FAIL.out w2 HB2.out HNo.out)
end Go.Proofs.Ytdgjbhejokmeoaa.PW
