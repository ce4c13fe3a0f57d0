/-
  The code's blocks: its iterator's word. Conditions: fewer than 10^10 bytes.
-/
import Derived.RangeFuncNested
import Derived.RangeFuncBound
import Derived.RangeFuncCalls
import Derived.RangeFuncLeaves
import Derived.Shelf.Abstract
import Derived.Shelf.RegionOpen
import Derived.OwnWalkIn
import Derived.TacticsInMore
import Derived.LoopNIn
import Derived.LoopIn
import Derived.Test.YthgfaadlnffpcaaZA40
set_option linter.unusedVariables false
namespace Go.Proofs.Ythgfaadlnffpcaa.SR
open Go Go.RowKit Go.Shelf Go.Proofs.Ythgfaadlnffpcaa.MM Go.Proofs.Ythgfaadlnffpcaa.VM Go.Proofs.Ythgfaadlnffpcaa.SM
open Go.Proofs.Ythgfaadlnffpcaa.EV (fldC docC docE doc_on IsF NewF)
open Go.Proofs.Ythgfaadlnffpcaa.RF (VowsT GrowsT FreeT TagT)
attribute [local go_sem] Oper.semAt_some


theorem told_fin {b : List UInt8} {hs : List Head} {l2 : List UInt8} {o2 : Bool} {FIN : List (List Doc) × List UInt8 × Bool} (h1 : headsSt 4096 (numSt 65536 b false).1 (numSt 65536 b false).2.1 (numSt 65536 b false).2.2 = (hs, l2, o2)) (h2 : rowSt hs 0 l2 o2 = FIN) :
    toldS b = FIN.1.map (fun c => (c, (0 : Int))) ++ if FIN.2.2 = true ∨ FIN.2.1 ≠ [] then [([], 120)] else [] := by
  have e : allSt b = FIN := by
    unfold allSt
    dsimp only
    rw [h1]
    exact h2
  subst e
  rfl
/-- What is yielded so far: no error. -/
def Fine (xs : List Part) : Prop := xs.map (·.2) = (xs.map (·.2.1)).map fun c => (c, (0 : Int))
theorem Fine.snoc {xs : List Part} (h : Fine xs) (u : Value) (ds : List Doc) : Fine (xs ++ [(u, (ds, 0))]) := by
  unfold Fine at h ⊢
  simp only [List.map_append, h]
  rfl

theorem told_take {b : List UInt8} {P : List Part} {r : List (List Doc)} {E : List (List Doc × Int)} (h : toldS b = (P.map (·.2.1) ++ r).map (fun c => (c, (0 : Int))) ++ E) (hf : Fine P) : P.map (·.2) = (toldS b).take P.length := by
  unfold Fine at hf
  rw [h, List.map_append, List.append_assoc, hf, List.take_left' (by simp)]
set_option maxRecDepth 100000 in
set_option maxHeartbeats 8000000 in
theorem blocks_in (n : Nat) (hn : 1 ≤ n) (y bb D : Nat) (T : Nat → Prop) (v0 : Value) (b : List UInt8) (J Jx : List Part → World → Prop) (hJ : GrowsT D 93 J)
    (hY : ∀ pre x A, J pre A → VowQ D x A → pre.length < 4097 → YieldAt Fence.wide (n - 1) Try.prog y (encQ x) A fun e B =>
      (e = .returned (.bool true) ∧ J (pre ++ [x]) B ∧ Kep (TagT T D 45 A) A B) ∨ (e = .returned (.bool false) ∧ Jx (pre ++ [x]) B))
    (W : World) (hD : D ≤ W.heap.size) (hT : ∀ k, T k → k < D) (hbb : W.cell? ⟨bb, 0, none⟩ = some v0) (hb : BOn T W v0 b) (h0 : J [] W) (hlen : b.length ≤ 10000000000) :
    CallsIn Fence.wide n Try.prog 58 #[.func (.yield y) #[] #[], .pointer (some ⟨bb, 0, none⟩)] W fun e B => (∃ v, e = .returned v) ∧
      ((∃ xs, xs.map (·.2) = toldS b ∧ J xs B) ∨ (∃ pre, (∃ k, pre.map (·.2) = (toldS b).take k) ∧ Jx pre B)) := by
  obtain ⟨p0, cap0, rfl, hlc, hcm⟩ := hb.shape
  obtain ⟨q, hq⟩ : ∃ q, W.heap.size = q := ⟨_, rfl⟩
  have hDq : D ≤ q := by omega
  have hTq : ¬ T q := fun h => by have := hT q h; omega
  obtain ⟨w1, hw1⟩ : ∃ w, W.alloc (.cells #[.slice p0 b.length cap0, .bool false] 93) = w := ⟨_, rfl⟩
  have hb1 : Below W.heap.size W w1 := by rw [← hw1]; exact (Below.refl _ _).alloc (Nat.le_refl _) _
  have hs1 : w1.heap.size = q + 1 := by rw [← hw1, ← hq]; simp
  have hrd1 : Rd T w1 q b false := ⟨_, by rw [← hw1, ← hq]; exact heap_alloc_new _ _, hb.below hb1⟩
  have hJ1 := hJ [] W w1 h0 (free_below hb1)
  have hH := heads_any T q b false w1 hrd1 hTq (fun k hk => by have := hT k hk; omega) (by omega)
  have hmay := heads_may 4096 (numSt 65536 b false).1 (numSt 65536 b false).2.1 (numSt 65536 b false).2.2
  have hcnt := heads_count 4096 (numSt 65536 b false).1 (numSt 65536 b false).2.1 (numSt 65536 b false).2.2
  have hlft := heads_left 4096 (numSt 65536 b false).1 (numSt 65536 b false).2.1 (numSt 65536 b false).2.2
  have hlf0 := num_rest 65536 b false
  obtain ⟨hs, l2, o2, hhs⟩ : ∃ hs l2 o2, headsSt 4096 (numSt 65536 b false).1 (numSt 65536 b false).2.1 (numSt 65536 b false).2.2 = (hs, l2, o2) := ⟨_, _, _, rfl⟩
  rw [hhs] at hH hmay hcnt hlft
  dsimp only at hmay hcnt hlft
  obtain ⟨FIN, hF⟩ : ∃ f, rowSt hs 0 l2 o2 = f := ⟨_, rfl⟩
  have HTOLD := Lib.hid (told_fin hhs hF)
  have HF0 : Hid (((([] : List Part).map (·.2.1)) ++ (rowSt (hs.drop 0) 0 l2 o2).1, (rowSt (hs.drop 0) 0 l2 o2).2) = FIN) := Lib.hid (by rw [← hF]; rfl)
  have HH := Lib.hid hH
  have HMAY := Lib.hid (fun x hx => hmay x hx)
  have HY := Lib.hid hY
  have HJ := Lib.hid hJ
  have HR1 := Lib.hid hrd1
  have HJ1 := Lib.hid hJ1
  have HW1 := Lib.hid hw1
  have HT := Lib.hid hT
  have hl2 : l2.length ≤ 10000000000 := by omega
  have hl1 : (numSt 65536 b false).2.1.length ≤ 10000000000 := by omega
  obtain ⟨M1, hM1⟩ : ∃ k, (numSt 65536 b false).2.1.length = k := ⟨_, rfl⟩
  rw [hM1] at HMAY hl1
  clear hH hmay hY hJ hrd1 hJ1 hw1 hF hhs hb hT hb1 hlft hlf0 hM1 h0
  refine callsIn_of_wp Try.func58 rfl trivial ?_ rfl
  simp only [Try.ntmps58, List.size_toArray, List.length_cons, List.length_nil, Nat.reduceAdd, Nat.reduceSub, Array.replicate_succ, Array.replicate_zero, List.push_toArray, List.append_toArray, List.nil_append, List.cons_append]
  gi_wp2
  rw [HW1.out]
  refine ⟨trivial, (callsIn_wide.2 HH.out).mono ?_⟩
  rintro e w2 ⟨u, rfl, ho, hr, hk⟩
  dsimp only at ho hr
  rw [hs1] at ho
  obtain ⟨ph, ch, rfl, hhc, hhm, _⟩ := ho.any.shape
  have HJ2 := HJ.out [] w1 w2 HJ1.out (free_of hk hDq HR1.out.cells.choose_spec.choose_spec.2.2)
  have HO2 := Lib.hid ho
  have HR2 := Lib.hid hr
  clear ho hr hk HJ1 HR1 HH HW1
  gi_wp2
  gi_loopw [4, 12] (fun av iv wr => ∃ (k : Nat) (xs : List Part) (A : Int) (L : List UInt8) (o : Bool), iv = .int .i64 k ∧ av = .int .i64 A ∧ k ≤ hs.length ∧ Hid (xs.length = k) ∧ 0 ≤ A ∧ A ≤ 1099511627776 ∧ Hid (L.length ≤ 10000000000) ∧ Hid (Fine xs) ∧ Hid ((xs.map (·.2.1) ++ (rowSt (hs.drop k) A L o).1, (rowSt (hs.drop k) A L o).2) = FIN) ∧ Hid (Rd T wr q L o) ∧ Hid (OwnX headC 97 (q + 1) (fun _ => False) wr (.slice ph hs.length ch) hs) ∧ Hid (J xs wr)) (fun _ iv _ => hs.length - (intOf iv).toNat)
  case atStart => exact ⟨0, [], 0, l2, o2, rfl, rfl, by omega, Lib.hid rfl, by omega, by omega, Lib.hid hl2, Lib.hid rfl, HF0, HR2, HO2, Lib.hid HJ2⟩
  case round =>
    obtain ⟨k, xs, A, L, o, rfl, rfl, hk, HXL, hA0, hA9, HL, HFI, HF, HR, HO, HJX⟩ := hrel
    clear HF0 HR2 HO2 HJ2
    have hqr := HR.out.lt
    obtain ⟨pq, cq, y0, y1, hrt⟩ := HR.out.cells
    have HRT := Lib.hid hrt
    by_cases hlt : k < hs.length
    · have t1 : decide ((k : Int) < (hs.length : Int)) = true := by rw [decide_eq_true_eq]; omega
      have t2 : decide (k < hs.length) = true := decide_eq_true hlt
      have t3 : (k : Int) < (hs.length : Int) := by omega
      obtain ⟨bh, oh, rfl, hbl, _, c0, c1, c2⟩ := head_at HO.out.any hlt
      have hfin := HF.out
      rw [row_drop hs A L o hlt] at hfin
      have hm := HMAY.out hs[k] (List.getElem_mem hlt)
      generalize hs[k] = hd at *
      obtain ⟨hn, last, sz⟩ := hd
      dsimp only at *
      obtain ⟨m1, m2, ⟨m3, m4⟩, m5, m6⟩ := hm
      obtain ⟨nn, rfl⟩ := Int.eq_ofNat_of_zero_le (show 0 ≤ hn by omega)
      obtain ⟨zz, rfl⟩ := Int.eq_ofNat_of_zero_le m2
      obtain ⟨qh, hqh⟩ : ∃ x, wr.heap.size = x := ⟨_, rfl⟩
      obtain ⟨w3, hw3⟩ : ∃ x, wr.alloc (.cells #[.int .i64 (nn : Int), .int .i64 last, .int .i64 (zz : Int)] 97) = x := ⟨_, rfl⟩
      have hb3 : Below wr.heap.size wr w3 := by rw [← hw3]; exact (Below.refl _ _).alloc (Nat.le_refl _) _
      have X3 : Hid (Three w3 qh 97 (.int .i64 (nn : Int)) (.int .i64 last) (.int .i64 (zz : Int))) := Lib.hid (by rw [← hw3, ← hqh]; exact three_new wr 97 _ _ _)
      have hR3 := HR.out.below hb3
      have hs3 := hb3.size
      have hB := block_any T q nn zz last A L o w3 hR3 (fun h => by have := HT.out q h; omega) (fun k hk => by have := HT.out k hk; omega) (by have := HL.out; omega) (by omega) (by omega) hA0 hA9 m3 m4
      have hdl := blk_docs ((nn : Int), (last, (zz : Int))) A L o (by omega) m5
      have hde := fun h => blk_back (h := ((nn : Int), (last, (zz : Int)))) (a := A) (l := L) (o := o) m2 (by omega) h m4
      have hbl2 := blk_left ((nn : Int), (last, (zz : Int))) A L o
      obtain ⟨ds, L', o', hbk⟩ : ∃ ds L' o', blkSt ((nn : Int), (last, (zz : Int))) A L o = (ds, L', o') := ⟨_, _, _, rfl⟩
      rw [hbk] at hB hfin hdl hbl2 hde
      dsimp only at hfin hdl hbl2
      have HB := Lib.hid hB
      have HFN := Lib.hid hfin
      have HDL := Lib.hid hdl
      have HDE : Hid (o' = false → ds ≠ []) := Lib.hid (fun h e => by have := (hde h).2.1; dsimp only at this; rw [e] at this; simp at this; omega)
      clear hde
      have HL' : Hid (L'.length ≤ 10000000000) := Lib.hid (by have := HL.out; omega)
      have HO3 := Lib.hid (HO.out.keep (kep_below (fun _ => True) hb3) (fun _ _ h => h.elim) (fun _ _ => trivial))
      have HJ3 := Lib.hid (HJ.out xs wr w3 HJX.out (free_below hb3))
      have HRT3 : Hid (∃ cur fr, w3.heap[q]? = some (.cells cur 93 fr)) := Lib.hid hR3.cells.choose_spec.choose_spec.2.2
      have HW3 := Lib.hid hw3
      have HLT := Lib.hid hlt
      obtain ⟨x0, x1, x2⟩ := X3.out.cells
      rw [← hw3] at x0 x1 x2
      clear hw3 hb3 hR3 hB hfin hdl hbk hbl2 HF HL HR HO HJX HRT hrt y0 y1 hlt m6
      gi_wp2
      rw [HW3.out]
      refine ⟨trivial, (callsIn_wide.2 HB.out).mono ?_⟩
      rintro e w4 ⟨u, rfl, hd4, hr4, hk4⟩
      dsimp only at hd4 hr4
      have hs4 := hk4.size
      obtain ⟨pq, cq, y0, y1, hrt⟩ := hr4.cells
      have x4 := X3.out.keep hk4 (fun e => by omega)
      obtain ⟨e0, e1, e2⟩ := x4.cells
      have HX4 := Lib.hid x4
      have hJ4 := HJ.out xs w3 w4 HJ3.out (free_of hk4 hDq HRT3.out)
      have HJ4 := Lib.hid hJ4
      have HR4 := Lib.hid hr4
      have HO4 := Lib.hid (HO3.out.keep hk4 (fun _ _ h => h.elim) (fun g hg e => by have := (HO3.out.cells hg).1; omega))
      have HD4 := Lib.hid hd4
      have hxl : xs.length < 4097 := by have := HXL.out; have := HLT.out; omega
      clear hk4 hr4 hd4 hrt X3 HJ3 HO3 HB HW3 HRT3 x0 x1 x2 c0 c1 c2 x4
      cases o' with
      | true =>
        have hf := HFN.out
        rw [if_pos rfl] at hf
        dsimp only at hf
        rw [List.append_nil] at hf
        subst hf
        have htold := HTOLD.out
        dsimp only at htold
        rw [if_pos (.inl rfl), ← HFI.out] at htold
        obtain ⟨fn, tmps, assign, body, hy, hRd⟩ := HY.out xs (.slice none 0 0, ([], 120)) w4 HJ4.out ⟨by simp, (fun h => by cases h), (ROn.nil_ _ _).src⟩ hxl
        dsimp only [encQ] at hy
        have HRd := Lib.hid hRd
        have HQ1 : Hid ((xs ++ [((.slice none 0 0 : Value), (([] : List Doc), (120 : Int)))]).map (·.2) = toldS b) := Lib.hid (by rw [htold, List.map_append]; rfl)
        clear htold hRd HFN HX4 HR4 HO4 HD4
        gi_wp2
        refine HRd.out.mono ?_
        rintro e w5 (⟨rfl, hJ5, hb5⟩ | ⟨rfl, hJ5⟩)
        · have HJ5 := Lib.hid hJ5
          clear hJ5 hb5 HRd hy
          gi_wp2
          go_end0
          exact ⟨⟨_, rfl⟩, .inl ⟨_, HQ1.out, HJ5.out⟩⟩
        · have HJ5 := Lib.hid hJ5
          clear hJ5 HRd hy
          gi_wp2
          go_end0
          exact ⟨⟨_, rfl⟩, .inr ⟨_, ⟨(toldS b).length, by rw [HQ1.out, List.take_length]⟩, HJ5.out⟩⟩
      | false =>
        have hf := HFN.out
        rw [if_neg (by simp)] at hf
        dsimp only at hf
        obtain ⟨pu, cu, rfl, _⟩ := HD4.out.any.shape
        have HF5 : Hid (((xs ++ [((.slice pu ds.length cu : Value), (ds, (0 : Int)))]).map (·.2.1) ++ (rowSt (hs.drop (k + 1)) last L' false).1, (rowSt (hs.drop (k + 1)) last L' false).2) = FIN) := Lib.hid (by rw [← hf]; simp)
        have HFI5 := Lib.hid (HFI.out.snoc (.slice pu ds.length cu) ds)
        have HPRE : Hid (∃ k, (xs ++ [((.slice pu ds.length cu : Value), (ds, (0 : Int)))]).map (·.2) = (toldS b).take k) := Lib.hid ⟨_, told_take (by rw [HTOLD.out, ← HF5.out]) HFI5.out⟩
        obtain ⟨fn, tmps, assign, body, hy, hRd⟩ := HY.out xs (.slice pu ds.length cu, (ds, 0)) w4 HJ4.out ⟨HDL.out rfl, (fun _ => HDE.out rfl), src_of_own (HD4.out.base (by omega))⟩ hxl
        dsimp only [encQ] at hy
        have HRd := Lib.hid hRd
        clear hf hRd HFN HDL HFI
        gi_wp2
        refine HRd.out.mono ?_
        rintro e w5 (⟨rfl, hJ5, hb5⟩ | ⟨rfl, hJ5⟩)
        · have HJ5 := Lib.hid hJ5
          have HR5 := Lib.hid (HR4.out.keep hb5 (by obtain ⟨_, _, _, _, cur, fr, hc⟩ := HR4.out.cells; exact .inr ⟨hDq, cur, _, fr, hc, by decide⟩) (fun b _ hT => .inl hT))
          have X5 := HX4.out.keep hb5 (.inr ⟨by omega, _, _, _, HX4.out, by decide⟩)
          have HO5 := Lib.hid (HO4.out.keep hb5 (fun _ _ h => h.elim) (fun g hg => by obtain ⟨h1, h2, cur, fr, hc⟩ := HO4.out.cells hg; exact .inr ⟨by omega, cur, _, fr, hc, by decide⟩))
          obtain ⟨g0, g1, g2⟩ := X5.cells
          clear hJ5 hb5 HRd hy HPRE HX4 HR4 HO4 HD4 X5 HJ4 e0 e1 e2 y0 y1
          gi_wp2
          have hlt := HLT.out
          go_roundw
          case rel => exact ⟨k + 1, xs ++ [((.slice pu ds.length cu : Value), (ds, (0 : Int)))], last, L', false, by go_num, rfl, by omega, Lib.hid (by have := HXL.out; simp; omega), m3, m4, HL', HFI5, HF5, HR5, HO5, HJ5⟩
          case measure => simp [intOf]; omega
        · have HJ5 := Lib.hid hJ5
          clear hJ5 HRd hy HX4 HR4 HO4 HD4 HJ4 HF5 HFI5
          gi_wp2
          refine bodyPost_ret (results_none rfl _ _ _) rfl ?_
          exact ⟨⟨_, rfl⟩, .inr ⟨_, HPRE.out, HJ5.out⟩⟩
    · obtain rfl : k = hs.length := by omega
      have t1 : decide ((hs.length : Int) < (hs.length : Int)) = false := by simp
      have t2 : decide (hs.length < hs.length) = false := by simp
      have hf := HF.out
      rw [row_end] at hf
      dsimp only at hf
      rw [List.append_nil] at hf
      subst hf
      have hxl : xs.length < 4097 := by have := HXL.out; omega
      obtain ⟨NL, hNL⟩ : ∃ x, L.length = x := ⟨_, rfl⟩
      rw [hNL] at y0
      have HLN : Hid (L ≠ [] ↔ 0 < NL) := Lib.hid (by rw [← hNL, List.length_pos_iff])
      clear hlt HF HL hNL HO HR HRT hrt
      cases o with
      | true =>
        have htold := HTOLD.out
        dsimp only at htold
        rw [if_pos (.inl rfl), ← HFI.out] at htold
        obtain ⟨fn, tmps, assign, body, hy, hRd⟩ := HY.out xs (.slice none 0 0, ([], 120)) wr HJX.out ⟨by simp, (fun h => by cases h), (ROn.nil_ _ _).src⟩ hxl
        dsimp only [encQ] at hy
        have HRd := Lib.hid hRd
        have HQ1 : Hid ((xs ++ [((.slice none 0 0 : Value), (([] : List Doc), (120 : Int)))]).map (·.2) = toldS b) := Lib.hid (by rw [htold, List.map_append]; rfl)
        clear htold hRd HLN
        gi_wp2
        refine HRd.out.mono ?_
        rintro e w5 (⟨rfl, hJ5, hb5⟩ | ⟨rfl, hJ5⟩)
        · have HJ5 := Lib.hid hJ5
          clear hJ5 hb5 HRd hy
          gi_wp2
          go_end0
          exact ⟨⟨_, rfl⟩, .inl ⟨_, HQ1.out, HJ5.out⟩⟩
        · have HJ5 := Lib.hid hJ5
          clear hJ5 HRd hy
          gi_wp2
          go_end0
          exact ⟨⟨_, rfl⟩, .inr ⟨_, ⟨(toldS b).length, by rw [HQ1.out, List.take_length]⟩, HJ5.out⟩⟩
      | false =>
        by_cases hni : 0 < NL
        · have u1 : decide ((NL : Int) > 0) = true := by rw [decide_eq_true_eq]; omega
          have u2 : decide (0 < NL) = true := decide_eq_true hni
          have htold := HTOLD.out
          dsimp only at htold
          rw [if_pos (.inr (HLN.out.2 hni)), ← HFI.out] at htold
          obtain ⟨fn, tmps, assign, body, hy, hRd⟩ := HY.out xs (.slice none 0 0, ([], 120)) wr HJX.out ⟨by simp, (fun h => by cases h), (ROn.nil_ _ _).src⟩ hxl
          dsimp only [encQ] at hy
          have HRd := Lib.hid hRd
          have HQ1 : Hid ((xs ++ [((.slice none 0 0 : Value), (([] : List Doc), (120 : Int)))]).map (·.2) = toldS b) := Lib.hid (by rw [htold, List.map_append]; rfl)
          clear htold hRd HLN hni
          gi_wp2
          refine HRd.out.mono ?_
          rintro e w5 (⟨rfl, hJ5, hb5⟩ | ⟨rfl, hJ5⟩)
          · have HJ5 := Lib.hid hJ5
            clear hJ5 hb5 HRd hy
            gi_wp2
            go_end0
            exact ⟨⟨_, rfl⟩, .inl ⟨_, HQ1.out, HJ5.out⟩⟩
          · have HJ5 := Lib.hid hJ5
            clear hJ5 HRd hy
            gi_wp2
            go_end0
            exact ⟨⟨_, rfl⟩, .inr ⟨_, ⟨(toldS b).length, by rw [HQ1.out, List.take_length]⟩, HJ5.out⟩⟩
        · have u1 : decide ((NL : Int) > 0) = false := by rw [decide_eq_false_iff_not]; omega
          have u2 : decide (0 < NL) = false := decide_eq_false hni
          have htold := HTOLD.out
          dsimp only at htold
          rw [if_neg (fun h => h.elim (fun h => by cases h) fun h => hni (HLN.out.1 h)), ← HFI.out, List.append_nil] at htold
          have HQ1 := Lib.hid htold
          clear htold hni HLN
          gi_wp2
          go_end0
          exact ⟨⟨_, rfl⟩, .inl ⟨xs, HQ1.out.symm, HJX.out⟩⟩
end Go.Proofs.Ythgfaadlnffpcaa.SR
