/-
  The law of P9.1, P9.2: it returns true, for any number of terms, whatever terms are added, whatever is asked. Condition: the arguments read as data.
-/
import Derived.Test.YtjogjmkfkmbjdaaBlmAwake
import Derived.Test.YtjogjmkfkmbjdaaBlmFew
import Derived.Test.YtjogjmkfkmbjdaaBlmRMay
import Derived.Test.YtjogjmkfkmbjdaaBlmROf
set_option linter.unusedVariables false
namespace Go.Proofs.Ytjogjmkfkmbjdaa.BL
open Go.RowKit Go.Proofs.Ytjogjmkfkmbjdaa.MM Go.Proofs.Ytjogjmkfkmbjdaa.BM

set_option maxRecDepth 100000 in
set_option maxHeartbeats 4000000 in
theorem runs_no (n : Int) (v0 v1 : Value) (ls qs : List (List UInt8)) (w : World) (hn : n < 0 ∨ 262144 < n) (h0 : TRow w v0 ls) (h1 : TRow w v1 qs) :
    Calls Try.prog 3 #[.int .i64 n, v0, v1] w fun e w' => e = .returned (.bool true) ∧ Below w.heap.size w w' := by
  have HFEW := Lib.hid (few_any v0 ls w h0)
  have HFEW2 := Lib.hid (fun W (hb : Below w.heap.size w W) => few_any v1 qs W (TRow.below h1 hb))
  have HNEW := Lib.hid (fun W => new_no n W hn)
  have HRNEW := Lib.hid (fun W => rnew_no n W hn)
  clear h0 h1 hn
  go_enter Try.func3, Try.ntmps3
  go_wp2_with fail
  refine HFEW.out.mono ?_
  rintro e w1 ⟨v3, rfl, ho1, hb1⟩
  have HB1 := Lib.hid hb1
  clear ho1 hb1 HFEW
  go_wp2_with fail
  refine (HFEW2.out _ HB1.out).mono ?_
  rintro e w2 ⟨v4, rfl, ho2, hb2⟩
  have HB2 := Lib.hid (grow HB1.out hb2)
  clear ho2 hb2 HFEW2 HB1
  go_wp2_with fail
  refine (HNEW.out _).mono ?_
  rintro e w3 ⟨rfl, rfl⟩
  go_wp2_with fail
  refine (HRNEW.out _).mono ?_
  rintro e w3 ⟨rfl, hb3⟩
  have HB3 := Lib.hid (grow HB2.out hb3)
  clear hb3 HB2
  go_wp2_with fail
  refine (awake_any _).mono ?_
  rintro e w4 ⟨rfl, hb4⟩
  have HB4 := Lib.hid (HB3.out.trans ((((Below.refl _ _).alloc (Nat.le_refl _) _).trans (hb4.mono (by simp))).mono HB3.out.size))
  clear hb4
  go_wp2_with fail
  go_ret
  exact ⟨rfl, HB4.out⟩

set_option maxRecDepth 100000 in
set_option maxHeartbeats 8000000 in
theorem runs_yes (n : Nat) (v0 v1 : Value) (ls qs : List (List UInt8)) (w : World) (hn : n ≤ 262144) (h0 : TRow w v0 ls) (h1 : TRow w v1 qs) :
    Calls Try.prog 3 #[.int .i64 n, v0, v1] w fun e w' => e = .returned (.bool true) ∧ Below w.heap.size w w' := by
  have HFEW := Lib.hid (few_any v0 ls w h0)
  have HFEW2 := Lib.hid (fun W (hb : Below w.heap.size w W) => few_any v1 qs W (TRow.below h1 hb))
  have hfl := fewL_len ls
  have hfe := fun s (h : s ∈ fewL ls) => fewL_each h
  obtain ⟨fs, hfs⟩ : ∃ fs, fewL ls = fs := ⟨_, rfl⟩
  rw [hfs] at HFEW hfl hfe
  have hgl := fewL_len qs
  have hge := fun s (h : s ∈ fewL qs) => fewL_each h
  obtain ⟨gs, hgs⟩ : ∃ gs, fewL qs = gs := ⟨_, rfl⟩
  rw [hgs] at HFEW2 hgl hge
  have HFE := Lib.hid (fun k (hk : k < fs.length) => hfe fs[k] (List.getElem_mem hk))
  have HGE := Lib.hid (fun k (hk : k < gs.length) => hge gs[k] (List.getElem_mem hk))
  have HNEW := Lib.hid (fun W => new_any n W hn)
  have HRNEW := Lib.hid (fun W => rnew_any n W hn)
  have hlo := (roomL_le n).1
  have hhi := (roomL_le n).2
  rw [← newL_len] at hlo hhi
  obtain ⟨N, hN⟩ : ∃ N, newL n = N := ⟨_, rfl⟩
  rw [hN] at HNEW HRNEW hlo hhi
  have HNX := Lib.hid (fun k (hk : k < fs.length) => addA_next (L := N) hk)
  have HLN := Lib.hid (addA_len N fs)
  have HA0 : Hid ((addA N (fs.take 0)).1 = N) := Lib.hid rfl
  have HONE := Lib.hid addA_one
  have HLO := Lib.hid hlo
  have HHI := Lib.hid hhi
  clear h0 h1 hn hfs hgs hfe hge hN hlo hhi
  go_enter Try.func3, Try.ntmps3
  go_wp2_with fail
  refine HFEW.out.mono ?_
  rintro e w1 ⟨v3, rfl, ho1, hb1⟩
  have HB1 := Lib.hid hb1
  have HT1 := Lib.hid ho1
  clear ho1 hb1 HFEW
  go_wp2_with fail
  refine (HFEW2.out _ HB1.out).mono ?_
  rintro e w2 ⟨v4, rfl, ho2, hb2⟩
  have HB2 := Lib.hid (grow HB1.out hb2)
  have HT2 : Hid (TIn w2.heap.size w2 v3 fs) := Lib.hid (HT1.out.keep hb2).trow
  have HU2 : Hid (TIn w2.heap.size w2 v4 gs) := Lib.hid ho2.trow
  clear ho2 hb2 HFEW2 HB1 HT1
  go_wp2_with fail
  refine (HNEW.out _).mono ?_
  rintro e w3 ⟨g, b, cap, rfl, hf3, hg3, hbb3, hb3⟩
  have HB3 := Lib.hid hb3
  have HF3 := Lib.hid hf3
  clear hf3 hb3
  go_wp2_with fail
  refine (HRNEW.out _).mono ?_
  rintro e w4 ⟨v5, rfl, ho4, hb4⟩
  have hlo := HLO.out
  obtain ⟨b5, cp5, rfl, hbb5, _, _⟩ := OwnB.shape ho4 (by omega)
  have ho5 := own_at ho4
  have hlb5 := own_lt ho5 (by omega)
  have hf4 := HF3.out.below hb4
  have hgl3 := HF3.out.glt
  have hbl3 := HF3.out.blt
  have hz4 := hb4.size
  have hz3 := HB3.out.size
  have hg6 := heap_alloc_new w4 (.cells #[.slice (some ⟨b5, 0, none⟩) N.length cp5] 30)
  have hb6 : Below w4.heap.size w4 (w4.alloc (.cells #[.slice (some ⟨b5, 0, none⟩) N.length cp5] 30)) := (Below.refl _ _).alloc (Nat.le_refl _) _
  have ho6 := own_block ho5 (hb6.block b5 hlb5)
  have hh6 : Held (fun k => k ≠ b ∧ k ≠ w4.heap.size) _ _ N := held_own ho6 (by omega) ⟨by omega, by omega⟩
  have hf6 := hf4.below hb6
  have hbw6 := HB3.out.trans ((hb4.alloc hz4 (.cells #[.slice (some ⟨b5, 0, none⟩) N.length cp5] 30)).mono hz3)
  have HCL := Lib.hid (show w2.heap.size ≤ w4.heap.size ∧ g < w4.heap.size ∧ b < w4.heap.size by omega)
  obtain ⟨W6, hW6⟩ : ∃ W6, w4.alloc (.cells #[.slice (some ⟨b5, 0, none⟩) N.length cp5] 30) = W6 := ⟨_, rfl⟩
  rw [hW6] at hg6 hb6 hh6 hf6 hbw6
  obtain ⟨c, hc⟩ : ∃ c, w4.heap.size = c := ⟨_, rfl⟩
  have HWC := Lib.hid hc
  have hcl : c < W6.heap.size := by rw [← hc]; exact (Array.getElem?_eq_some_iff.1 hg6).1
  have HCW := Lib.hid hcl
  rw [hc] at hg6 hh6 HCL
  have HG6 := Lib.hid hg6
  have HH6 := Lib.hid hh6
  have HF6 := Lib.hid hf6
  have HB6 := Lib.hid hbw6
  have HW6 := Lib.hid hW6
  clear ho4 ho5 hlb5 hf4 hgl3 hbl3 hz4 hz3 hg6 hb6 ho6 hh6 hf6 hbw6 hW6 hc hlo hb4 hbb5 hcl HF3 HB3
  go_wp2_with fail
  rw [HW6.out, HWC.out]
  refine (awake_any _).mono ?_
  rintro e w7 ⟨rfl, hb7⟩
  have hk7 := kep_below (fun _ => True) hb7
  have HG7 := Lib.hid ((hk7.block c HCW.out trivial).trans HG6.out)
  have HH7 : Hid (Held (fun k => k ≠ b ∧ k ≠ c) w7 (.slice (some ⟨b5, 0, none⟩) N.length cp5) (addA N (fs.take 0)).1) := Lib.hid (by rw [HA0.out]; exact HH6.out.keep (hk7.mono fun _ _ => trivial))
  have HF7 : Hid (FAt w7 g b cap (addA N (fs.take 0)).1) := Lib.hid (by rw [HA0.out]; exact HF6.out.below hb7)
  have HB7 := Lib.hid (HB6.out.trans (hb7.mono HB6.out.size))
  clear hb7 hk7 HG6 HH6 HF6 HB6
  obtain ⟨p3, tc3, rfl, _, _⟩ := TIn.shape HT2.out
  obtain ⟨p4, tc4, rfl, _, _⟩ := TIn.shape HU2.out
  go_wp2_with fail
  go_loopw [11] (fun iv wr => ∃ (i : Nat) (u : Value), i ≤ fs.length ∧ iv = .int .i64 i ∧ Hid (wr.heap[c]? = some (.cells #[u] 30 (0, 0))) ∧ Hid (Held (fun k => k ≠ b ∧ k ≠ c) wr u (addA N (fs.take i)).1) ∧ Hid (FAt wr g b cap (addA N (fs.take i)).1) ∧ Hid (Below w2.heap.size w2 wr)) (fun iv _ => fs.length - (intOf iv).toNat)
  case atStart => exact ⟨0, _, by omega, rfl, HG7, HH7, HF7, HB7⟩
  case round =>
    obtain ⟨i, u, hi, rfl, HG, HH, HF, HB⟩ := hrel
    clear HG7 HH7 HF7 HB7
    have HBG := Lib.hid hbb3
    have HCB := Lib.hid (show c ≠ b ∧ g ≠ c ∧ w2.heap.size ≤ c by have := HCL.out; omega)
    by_cases hlt : i < fs.length
    · have t1 : decide ((i : Int) < (fs.length : Int)) = true := by simp; omega
      obtain ⟨bt, off, rfl, hbl, hcell⟩ := TIn.at_ (HT2.out.below HB.out) hlt
      have hse := HFE.out i hlt
      have hnx := congrArg (fun x => x.1) (HNX.out i hlt)
      dsimp only at hnx
      have hln := HLN.out i
      obtain ⟨s, hs⟩ : ∃ s, fs[i] = s := ⟨_, rfl⟩
      rw [hs] at hcell hse hnx
      obtain ⟨M, hM⟩ : ∃ M, (addA N (fs.take i)).1 = M := ⟨_, rfl⟩
      rw [hM] at hnx hln HH HF
      have hone := HONE.out M s
      obtain ⟨⟨M', c'⟩, hM'⟩ : ∃ M', addT M s = M' := ⟨_, rfl⟩
      have hcl := addT_count M s
      have hlen' := addT_len M s
      have hlo := HLO.out
      have hhi := HHI.out
      have hadd := fun W (hr : BRow W u M) => radd_any u M s W hr (by omega) (by omega) (by omega)
      rw [hM'] at hnx hcl hlen' hone
      simp only [hM'] at hadd
      dsimp only at hnx hcl hlen'
      obtain ⟨up, ucap, rfl, _, _⟩ := HH.out.row.shape
      have HNN := Lib.hid hnx
      have HAD := Lib.hid hadd
      have HL' := Lib.hid (show 8 ≤ M'.length by omega)
      obtain ⟨wd, hwd⟩ : ∃ wd, wr.drew = wd := ⟨_, rfl⟩
      have hkd : Kep (fun _ => True) wr wd := by rw [← hwd]; exact kep_draw _ _
      have hbd : Below w2.heap.size w2 wd := by rw [← hwd]; exact HB.out.drew
      have hgd : wd.heap[c]? = _ := (hkd.block c (Array.getElem?_eq_some_iff.1 HG.out).1 trivial).trans HG.out
      have hszd := (Array.getElem?_eq_some_iff.1 hgd).1
      have hbr : BRow wd (.slice up M.length ucap) M := HH.out wd (hkd.mono fun _ _ => trivial)
      have hfd : FAt wd g b cap M := HF.out.keep hkd trivial trivial
      have hcd : wd.cell? ⟨bt, off + i, none⟩ = some (.string ⟨s.toArray⟩) := (hbd.cell (p := ⟨bt, off + i, none⟩) hbl).trans ((HB.out.cell (p := ⟨bt, off + i, none⟩) hbl).symm.trans hcell)
      have hca : wd.cell? ⟨c, 0, none⟩ = some (.slice up M.length ucap) := by rw [cell_of_row _ _ 0 _ _ _ hgd]; rfl
      have hgl := hfd.glt
      have hbl2 := hfd.blt
      have HGD := Lib.hid hgd
      have HBR := Lib.hid hbr
      have HFD := Lib.hid hfd
      have HBD := Lib.hid hbd
      have HSD := Lib.hid (show c < wd.heap.size ∧ g < wd.heap.size ∧ b < wd.heap.size ∧ w2.heap.size ≤ wd.heap.size from ⟨hszd, hgl, hbl2, hbd.size⟩)
      have HF1 := Lib.hid (fun W (hW : Kep (fun c => c < wd.heap.size) wd W) => (hW.cell (b := bt) (Nat.lt_of_lt_of_le hbl hbd.size) (Nat.lt_of_lt_of_le hbl hbd.size) (off + i)).trans hcd)
      have HF2 := Lib.hid (fun W (hW : Kep (fun c => c < wd.heap.size) wd W) => (hW.cell (b := c) hszd hszd 0).trans hca)
      have hadd2 : ∀ W k, W.heap.size = k → FAt W g b cap M → Calls Try.prog 12 #[.pointer (some ⟨g, 0, none⟩), .slice (some ⟨k, 0, none⟩) 1 1] (W.alloc (.cells #[.string ⟨s.toArray⟩] 9)) (AddLeft g b cap (M', c') (W.alloc (.cells #[.string ⟨s.toArray⟩] 9))) := fun W k hk hf => by
        subst hk
        have hba : Below W.heap.size W (W.alloc (.cells #[.string ⟨s.toArray⟩] 9)) := (Below.refl _ _).alloc (Nat.le_refl _) _
        have hbt := hf.blt
        have := add_any g b cap M (.slice (some ⟨W.heap.size, 0, none⟩) 1 1) [s] _ (hf.below hba) (trow_lit W s b (by omega)) (by simp) (by simp; omega)
        rw [hone] at this
        exact this
      have HADD := Lib.hid hadd2
      -- what stands behind the region
      have hend : ∀ (W6 : World) (b6 cp : Nat), OwnB b6 W6 (.slice (some ⟨b6, 0, none⟩) M'.length cp) M' → wd.heap.size ≤ b6 → Below wd.heap.size wd W6 →
          (W6.setCell ⟨c, 0, none⟩ (.slice (some ⟨b6, 0, none⟩) M'.length cp)).heap[c]? = some (.cells #[.slice (some ⟨b6, 0, none⟩) M'.length cp] 30 (0, 0)) ∧
          Held (fun k => k ≠ b ∧ k ≠ c) (W6.setCell ⟨c, 0, none⟩ (.slice (some ⟨b6, 0, none⟩) M'.length cp)) (.slice (some ⟨b6, 0, none⟩) M'.length cp) M' ∧
          FAt (W6.setCell ⟨c, 0, none⟩ (.slice (some ⟨b6, 0, none⟩) M'.length cp)) g b cap M ∧ Below w2.heap.size w2 (W6.setCell ⟨c, 0, none⟩ (.slice (some ⟨b6, 0, none⟩) M'.length cp)) := fun W6 b6 cp ho hb6 hbw => by
        have hsd := HSD.out
        have hcb := HCB.out
        have h8 := HL'.out
        have hk := kep_below (fun _ => True) hbw
        have hg6 := (hk.block c hsd.1 trivial).trans HGD.out
        obtain ⟨q1, q2, q3, q4⟩ := box_one hg6 (.slice (some ⟨b6, 0, none⟩) M'.length cp)
        exact ⟨q3, held_own (own_block ho (q4.block b6 (own_lt ho (by omega)) (by omega))) (by omega) ⟨by omega, by omega⟩, (HFD.out.keep hk trivial trivial).keep q4 (by omega) (by omega), below_set _ (HBD.out.trans (hbw.mono HBD.out.size)) hcb.2.2⟩
      have HEND := Lib.hid hend
      have hend2 : ∀ (W7 w9 : World) (u' : Value), W7.heap[c]? = some (.cells #[u'] 30 (0, 0)) → Held (fun k => k ≠ b ∧ k ≠ c) W7 u' M' → Below w2.heap.size w2 W7 → FAt w9 g b cap M' → Kep (fun k => k ≠ b) (W7.alloc (.cells #[.string ⟨s.toArray⟩] 9)) w9 →
          w9.heap[c]? = some (.cells #[u'] 30 (0, 0)) ∧ Held (fun k => k ≠ b ∧ k ≠ c) w9 u' M' ∧ FAt w9 g b cap M' ∧ Below w2.heap.size w2 w9 := fun W7 w9 u' hg hh hbl hf hk => by
        have hcb := HCB.out
        have hka := kep_alloc (fun _ => True) W7 (.cells #[.string ⟨s.toArray⟩] 9)
        have hg8 := (hka.block c (Array.getElem?_eq_some_iff.1 hg).1 trivial).trans hg
        have hba := hbl.alloc hbl.size (.cells #[.string ⟨s.toArray⟩] 9)
        exact ⟨(hk.block c (Array.getElem?_eq_some_iff.1 hg8).1 hcb.1).trans hg8, (hh.keep (hka.mono fun _ _ => trivial)).keep (hk.mono fun k hk => hk.1), hf, hba.trans (hk.below hba.size fun k hk => by have := HBG.out; omega)⟩
      have HEND2 := Lib.hid hend2
      have HCX := Lib.hid (fun W (hW : Below wd.heap.size wd W) => And.intro ((hW.cell (p := ⟨bt, off + i, none⟩) (Nat.lt_of_lt_of_le hbl hbd.size)).trans hcd) ((hW.block c hszd).trans hgd))
      have HCY := Lib.hid (fun (W : World) (v : Value) (hW : Below wd.heap.size wd W) => ((kep_set (w := W) (g := c) (i := 0) (S := fun k => k ≠ c) (fun h => h rfl) v).cell (b := bt) (Nat.lt_of_lt_of_le (Nat.lt_of_lt_of_le hbl hbd.size) hW.size) (by have := HCB.out; omega) (off + i)).trans ((hW.cell (p := ⟨bt, off + i, none⟩) (Nat.lt_of_lt_of_le hbl hbd.size)).trans hcd))
      clear hkd hbd hgd hbr hfd hcd hca hcell hend hend2 HG HH HF HB hgl hbl2 hszd hs hnx hln hM hone hM' hlen' hlo hhi hadd hadd2 hse
      go_wp2_with fail
      refine RT.begin_ (T := fun c => c < wd.heap.size) (.take 0 <| .take 1 <| .take 2 <| .take 3 <| .take 4 <| .both 5 9 (.take 6 <| .take 7 <| .take 8 <| .alone 9 <| .alone 10 <| .take 11 <| .done) (.alone 5 <| .take 6 <| .take 7 <| .take 8 <| .alone 10 <| .take 11 <| .done)) (by kernel_rfl) (by kernel_rfl) rfl (by kernel_rfl) (fun _ _ d _ _ h => by cases d <;> exact h) ?_
      simp only [RT.ordered, List.getElem?_toArray, List.getElem?_cons_succ, List.getElem?_cons_zero]
      rw [hwd]
      repeat (refine RT.take (by rfl) (by intro W hW; have g1 := HF1.out W hW; have g2 := HF2.out W hW; go_simp; with_reducible rfl) ?_; simp only [Act.put, List.setIfInBounds_toArray, List.set_cons_zero, List.set_cons_succ])
      refine RT.both ?_ ?_
      · refine RT.step (by rfl) (fun K hK => ?_)
        go_simp
        refine (HAD.out _ HBR.out).mono ?_
        rintro e w5 ⟨v5, rfl, ho5, hb5⟩
        change OwnB wd.heap.size w5 v5 M' at ho5
        go_simp
        refine hK.out _ _ (kep_below _ hb5) ?_
        clear hK K
        have h8 := HL'.out
        obtain ⟨b6, cp, rfl, hbb, _, _⟩ := OwnB.shape ho5 (by omega)
        have HO5 := Lib.hid (own_at ho5)
        have HB5 := Lib.hid hb5
        have HLB := Lib.hid (own_lt (own_at ho5) (by omega))
        clear ho5 hb5 h8
        repeat (refine RT.take (by rfl) (by intro W hW; go_simp; with_reducible rfl) ?_; simp only [Act.put, List.setIfInBounds_toArray, List.set_cons_zero, List.set_cons_succ])
        refine RT.alone (RT.step (by rfl) (fun K hK => ?_))
        go_simp
        refine hK.out _ _ (kep_alloc _ _ _) ?_
        clear hK K
        refine RT.alone (RT.step (by rfl) (fun K hK => ?_))
        have hs5 := HB5.out.size
        have hlb := HLB.out
        go_simp
        refine hK.out _ _ (kep_realloc _ _ fun c hc => by have : c < wd.heap.size := hc; omega) ?_
        clear hK K
        have hgn := heap_alloc_new w5 (.cells #[.slice (some ⟨b6, 0, none⟩) M'.length cp] 30)
        have hka := kep_alloc (fun _ => True) w5 (.cells #[.slice (some ⟨b6, 0, none⟩) M'.length cp] 30)
        have hb6 : Below wd.heap.size wd (w5.alloc (.cells #[.slice (some ⟨b6, 0, none⟩) M'.length cp] 30)) := HB5.out.alloc hs5 _
        have HX := Lib.hid (HEND.out _ b6 cp (own_block HO5.out (hka.block b6 HLB.out trivial)) hbb hb6)
        have hcx := HCX.out _ hb6
        have hcy := HCY.out _ (.slice (some ⟨b6, 0, none⟩) M'.length cp) hb6
        obtain ⟨W6, hW6⟩ : ∃ W6, w5.alloc (.cells #[.slice (some ⟨b6, 0, none⟩) M'.length cp] 30) = W6 := ⟨_, rfl⟩
        rw [hW6] at HX hgn hcx hcy ⊢
        have hc6 : W6.cell? ⟨w5.heap.size, 0, none⟩ = some (.slice (some ⟨b6, 0, none⟩) M'.length cp) := by rw [cell_of_row _ _ 0 _ _ _ hgn]; rfl
        have hc7 : W6.cell? ⟨c, 0, none⟩ = some (.slice up M.length ucap) := by rw [cell_of_row _ _ 0 _ _ _ hcx.2]; rfl
        have hf7 := frozen_of_row W6 c 0 _ _ hcx.2
        have hc8 := hcx.1
        clear hgn hka hb6 hW6 hs5 hlb hcx
        repeat (refine RT.take (by rfl) (by intro W hW; go_simp; with_reducible rfl) ?_; simp only [Act.put, List.setIfInBounds_toArray, List.set_cons_zero, List.set_cons_succ])
        refine RT.done ?_
        go_wp2_with fail
        refine (HADD.out _ _ (by simp) HX.out.2.2.1).mono ?_
        rintro e w9 ⟨rfl, hf9, hk9⟩
        have HY := Lib.hid (HEND2.out _ _ _ HX.out.1 HX.out.2.1 HX.out.2.2.2 hf9 hk9)
        clear hf9 hk9 HX HADD
        go_wp2_with fail
        go_roundw
        case rel => exact ⟨i + 1, _, by omega, by go_num, Lib.hid HY.out.1, by rw [HNN.out]; exact Lib.hid HY.out.2.1, by rw [HNN.out]; exact Lib.hid HY.out.2.2.1, Lib.hid HY.out.2.2.2⟩
        case measure => simp [intOf]; omega
      · refine RT.step (by rfl) (fun K hK => ?_)
        go_simp
        refine hK.out _ _ (kep_alloc _ _ _) ?_
        clear hK K
        have hgn := heap_alloc_new wd (.cells #[.slice none 0 0] 30)
        have hba := (Below.refl wd.heap.size wd).alloc (Nat.le_refl _) (.cells #[.slice none 0 0] 30)
        have hza : (wd.alloc (.cells #[.slice none 0 0] 30)).heap.size = wd.heap.size + 1 := by simp
        obtain ⟨Wa, hWa⟩ : ∃ Wa, wd.alloc (.cells #[.slice none 0 0] 30) = Wa := ⟨_, rfl⟩
        rw [hWa] at hgn hba hza ⊢
        have HGN := Lib.hid hgn
        have HBA := Lib.hid hba
        have HZA := Lib.hid hza
        clear hgn hba hza hWa
        refine RT.alone (RT.step (by rfl) (fun K hK => ?_))
        go_simp
        refine (HAD.out _ (HBR.out.below HBA.out)).mono ?_
        rintro e w5 ⟨v5, rfl, ho5, hb5⟩
        change OwnB Wa.heap.size w5 v5 M' at ho5
        go_simp
        have hbz := HBA.out.size
        refine hK.out _ _ (kep_below _ hb5) ?_
        clear hK K
        have h8 := HL'.out
        obtain ⟨b6, cp, rfl, hbb, _, _⟩ := OwnB.shape ho5 (by omega)
        have HO5 := Lib.hid (own_at ho5)
        have HLB := Lib.hid (own_lt (own_at ho5) (by omega))
        have HG5 := Lib.hid ((hb5.block wd.heap.size (by have := HZA.out; omega)).trans HGN.out)
        have HB5 := Lib.hid (HBA.out.trans (hb5.mono hbz))
        have HBB := Lib.hid (show wd.heap.size < b6 by have := HZA.out; omega)
        clear ho5 hb5 h8 hbb hbz
        repeat (refine RT.take (by rfl) (by intro W hW; go_simp; with_reducible rfl) ?_; simp only [Act.put, List.setIfInBounds_toArray, List.set_cons_zero, List.set_cons_succ])
        refine RT.alone (RT.step (by rfl) (fun K hK => ?_))
        obtain ⟨z1, z2, z3, z4⟩ := box_one HG5.out (.slice (some ⟨b6, 0, none⟩) M'.length cp)
        have hs5 := HB5.out.size
        have hbb := HBB.out
        go_simp
        refine hK.out _ _ (z4.mono' fun c _ hc => by show c ≠ wd.heap.size; have : c < wd.heap.size := hc; omega) ?_
        clear hK K
        have hb6 : Below wd.heap.size wd (w5.setCell ⟨wd.heap.size, 0, none⟩ (.slice (some ⟨b6, 0, none⟩) M'.length cp)) := below_set _ HB5.out (Nat.le_refl _)
        have HX := Lib.hid (HEND.out _ b6 cp (own_block HO5.out (z4.block b6 HLB.out (by omega))) (by omega) hb6)
        have hcx := HCX.out _ hb6
        have hcy := HCY.out _ (.slice (some ⟨b6, 0, none⟩) M'.length cp) hb6
        obtain ⟨W6, hW6⟩ : ∃ W6, w5.setCell ⟨wd.heap.size, 0, none⟩ (.slice (some ⟨b6, 0, none⟩) M'.length cp) = W6 := ⟨_, rfl⟩
        rw [hW6] at HX z3 hcx hcy ⊢
        have hc6 : W6.cell? ⟨wd.heap.size, 0, none⟩ = some (.slice (some ⟨b6, 0, none⟩) M'.length cp) := by rw [cell_of_row _ _ 0 _ _ _ z3]; rfl
        have hc7 : W6.cell? ⟨c, 0, none⟩ = some (.slice up M.length ucap) := by rw [cell_of_row _ _ 0 _ _ _ hcx.2]; rfl
        have hf7 := frozen_of_row W6 c 0 _ _ hcx.2
        have hc8 := hcx.1
        clear z1 z2 z3 z4 hb6 hW6 hs5 hbb hcx
        repeat (refine RT.take (by rfl) (by intro W hW; go_simp; with_reducible rfl) ?_; simp only [Act.put, List.setIfInBounds_toArray, List.set_cons_zero, List.set_cons_succ])
        refine RT.done ?_
        go_wp2_with fail
        refine (HADD.out _ _ (by simp) HX.out.2.2.1).mono ?_
        rintro e w9 ⟨rfl, hf9, hk9⟩
        have HY := Lib.hid (HEND2.out _ _ _ HX.out.1 HX.out.2.1 HX.out.2.2.2 hf9 hk9)
        clear hf9 hk9 HX HADD
        go_wp2_with fail
        go_roundw
        case rel => exact ⟨i + 1, _, by omega, by go_num, Lib.hid HY.out.1, by rw [HNN.out]; exact Lib.hid HY.out.2.1, by rw [HNN.out]; exact Lib.hid HY.out.2.2.1, Lib.hid HY.out.2.2.2⟩
        case measure => simp [intOf]; omega
    · obtain rfl : i = fs.length := by omega
      have t1 : decide ((fs.length : Int) < (fs.length : Int)) = false := by simp
      have hln := HLN.out fs.length
      obtain ⟨M, hM⟩ : ∃ M, (addA N (fs.take fs.length)).1 = M := ⟨_, rfl⟩
      rw [hM] at hln HH HF
      obtain ⟨up, ucap, rfl, _, _⟩ := HH.out.row.shape
      have hlo := HLO.out
      have hhi := HHI.out
      rw [← hln] at hlo hhi
      have HHI2 := Lib.hid hhi
      have HLO2 := Lib.hid hlo
      obtain ⟨WL, hWL⟩ : ∃ WL, wr = WL := ⟨_, rfl⟩
      have HWL := Lib.hid hWL
      rw [hWL] at HG HH HF HB
      have HCLT := Lib.hid (Array.getElem?_eq_some_iff.1 HG.out).1
      have HMAY := Lib.hid (fun s W (h : List.length s ≤ 1000000) (hf : FAt W g b cap M) => may_any g b cap M s W hf h)
      have HRM := Lib.hid (fun s W (h : List.length s ≤ 1000000) (hr : BRow W (.slice up M.length ucap) M) => rmay_any _ M s W hr h hlo hhi)
      clear hM hln hlo hhi hWL
      go_wp2_with fail
      rw [HWL.out]
      go_loopw [14] (fun jv wr => ∃ j : Nat, j ≤ gs.length ∧ jv = .int .i64 j ∧ Hid (Below WL.heap.size WL wr)) (fun jv _ => gs.length - (intOf jv).toNat)
      case atStart => exact ⟨0, by omega, rfl, Lib.hid (Below.refl _ _)⟩
      case round =>
        obtain ⟨j, hj, rfl, HBL⟩ := hrel
        have hbl := HBL.out
        have hgc : wr.heap[c]? = _ := (hbl.block c HCLT.out).trans HG.out
        by_cases hlt : j < gs.length
        · have t2 : decide ((j : Int) < (gs.length : Int)) = true := by simp; omega
          have hbw := HB.out.trans (hbl.mono HB.out.size)
          obtain ⟨bt, off, rfl, hbt, hcell⟩ := TIn.at_ (HU2.out.below hbw) hlt
          have hse := HGE.out j hlt
          obtain ⟨s, hs⟩ : ∃ s, gs[j] = s := ⟨_, rfl⟩
          rw [hs] at hcell hse
          have hmay := fun W hf => HMAY.out s W (by omega) hf
          have hrm := fun W hr => HRM.out s W (by omega) hr
          obtain ⟨R, hR⟩ : ∃ R, mayL M s = R := ⟨_, rfl⟩
          simp only [hR] at hmay hrm
          have HMA := Lib.hid hmay
          have HRMA := Lib.hid hrm
          obtain ⟨wd, hwd⟩ : ∃ wd, wr.drew = wd := ⟨_, rfl⟩
          have hbd : Below WL.heap.size WL wd := by rw [← hwd]; exact hbl.drew
          have hkd : Below wr.heap.size wr wd := by rw [← hwd]; exact (Below.refl _ _).drew
          have HBD := Lib.hid hbd
          have HSB := Lib.hid hkd
          have f1 := fun W (hW : RG.Grew wd W) => (hW.cell (p := ⟨bt, off + j, none⟩) (Nat.lt_of_lt_of_le hbt (Nat.le_trans hbw.size hkd.size))).trans ((hkd.cell (p := ⟨bt, off + j, none⟩) (Nat.lt_of_lt_of_le hbt hbw.size)).trans hcell)
          have f2 : ∀ W, RG.Grew wd W → W.cell? ⟨c, 0, none⟩ = some (.slice up M.length ucap) := fun W hW => by
            have hcl := (Array.getElem?_eq_some_iff.1 hgc).1
            rw [cell_of_row W c 0 _ _ _ ((hW.block c (Nat.lt_of_lt_of_le hcl hkd.size)).trans ((hkd.block c hcl).trans hgc))]; rfl
          have HF1 := Lib.hid f1
          have HF2 := Lib.hid f2
          clear hs hR hmay hrm hse f1 f2 hbd hkd hcell hbw hbl hgc
          go_wp2_with fail
          refine RG.begin_ [(0, true), (1, true), (2, true), (3, true), (4, true), (6, true), (7, true), (8, true), (9, true), (10, true), (5, false), (11, false), (12, true)] (by kernel_rfl) (by kernel_rfl) rfl (by kernel_rfl) (fun _ _ d _ _ h => by cases d <;> exact h) ?_
          simp only [RG.ordered, List.map_cons, List.map_nil, List.getElem?_toArray, List.getElem?_cons_succ, List.getElem?_cons_zero]
          rw [hwd]
          repeat (refine RG.take (by rfl) (by intro W hW; have g1 := HF1.out W hW; have g2 := HF2.out W hW; go_simp; with_reducible rfl) ?_; simp only [Act.put, List.setIfInBounds_toArray, List.set_cons_zero, List.set_cons_succ])
          refine RG.alone (by rfl) (fun K hK => ?_)
          go_simp
          refine (HMA.out _ (HF.out.below HBD.out)).mono ?_
          rintro e w8 ⟨rfl, b8⟩
          go_simp
          refine hK.out _ _ b8 ?_
          clear hK K
          have HB8 := Lib.hid (HBD.out.trans (b8.mono HBD.out.size))
          clear b8
          refine RG.alone (by rfl) (fun K hK => ?_)
          go_simp
          refine (HRMA.out _ (HH.out _ ((kep_below _ HB8.out)))).mono ?_
          rintro e w9 ⟨rfl, b9⟩
          go_simp
          refine hK.out _ _ b9 ?_
          clear hK K
          have HB9 := Lib.hid (HB8.out.trans (b9.mono HB8.out.size))
          clear b9
          repeat (refine RG.take (by rfl) (by intro W hW; go_simp; with_reducible rfl) ?_; simp only [Act.put, List.setIfInBounds_toArray, List.set_cons_zero, List.set_cons_succ])
          refine RG.done ?_
          go_wp2_with fail
          go_roundw
          case rel => exact ⟨j + 1, by omega, by go_num, HB9⟩
          case measure => simp [intOf]; omega
        · obtain rfl : j = gs.length := by omega
          have t2 : decide ((gs.length : Int) < (gs.length : Int)) = false := by simp
          obtain ⟨wd, hwd⟩ : ∃ wd, wr.drew = wd := ⟨_, rfl⟩
          have hbd : Below WL.heap.size WL wd := by rw [← hwd]; exact hbl.drew
          have hcd := (hbd.block c HCLT.out).trans HG.out
          have hcl := (Array.getElem?_eq_some_iff.1 hcd).1
          have HBD := Lib.hid hbd
          have HF2 : Hid (∀ W, RG.Grew wd W → W.cell? ⟨c, 0, none⟩ = some (.slice up M.length ucap)) := Lib.hid fun W hW => by
            rw [cell_of_row W c 0 _ _ _ ((hW.block c hcl).trans hcd)]; rfl
          have HROW : Hid (∀ W, RG.Grew wd W → BRow W (.slice up M.length ucap) M) := Lib.hid fun W hW => HH.out W (kep_below _ (hbd.trans (hW.mono hbd.size)))
          have HE1 := Lib.hid (fun W (hW : RG.Grew wd W) => (HROW.out W hW).conv)
          have HFD := Lib.hid (HF.out.below hbd)
          have HBYT := Lib.hid (cbytes_any g b cap M wd HFD.out)
          have hhi := HHI2.out
          have q7 : IntKind.i64.wrap (8 * (M.length : Int)) = 8 * (M.length : Int) := by rw [IntKind.wrap_i64]; omega
          have q8 : ((8 : Int) * (M.length : Int) == 8 * (M.length : Int)) = true := by simp
          have q9 : ((countL M : Int) == (countL M : Int)) = true := by simp
          clear hbd hcd hcl hgc hbl HMAY HRM
          go_wp2_with fail
          refine RG.begin_ [(0, true), (3, true), (4, true), (5, true), (1, false), (2, true), (6, true), (7, true), (8, true), (10, true), (11, true), (12, true), (13, true), (9, false), (14, true), (15, true), (16, true), (17, true), (19, true), (18, false), (20, false), (21, true), (22, true), (23, true)] (by kernel_rfl) (by kernel_rfl) rfl (by kernel_rfl) (fun _ _ d _ _ h => by cases d <;> exact h) ?_
          simp only [RG.ordered, List.map_cons, List.map_nil, List.getElem?_toArray, List.getElem?_cons_succ, List.getElem?_cons_zero]
          rw [hwd]
          repeat (refine RG.take (by rfl) (by intro W hW; have g2 := HF2.out W hW; have g3 := HE1.out W hW; go_simp; with_reducible rfl) ?_; simp only [Act.put, List.setIfInBounds_toArray, List.set_cons_zero, List.set_cons_succ])
          refine RG.alone (by rfl) (fun K hK => ?_)
          go_simp
          refine HBYT.out.mono ?_
          rintro e w8 ⟨v8, rfl, ho8, b8⟩
          go_simp
          refine hK.out _ _ b8 ?_
          clear hK K
          obtain ⟨p8, cp8, rfl, _, _⟩ := ho8.brow.shape
          have HE8 := Lib.hid (fun W (hW : RG.Grew w8 W) => (BRow.below ho8.brow hW).conv)
          have HF28 := Lib.hid (fun W (hW : RG.Grew w8 W) => HF2.out W (RG.Grew.trans b8 hW))
          have HB8 := Lib.hid b8
          clear ho8 b8
          repeat (refine RG.take (by rfl) (by intro W hW; have g2 := HF28.out W hW; have g3 := HE8.out W hW; go_simp; with_reducible rfl) ?_; simp only [Act.put, List.setIfInBounds_toArray, List.set_cons_zero, List.set_cons_succ])
          refine RG.alone (by rfl) (fun K hK => ?_)
          go_simp
          refine (bits_any g b cap M w8 (HFD.out.below HB8.out)).mono ?_
          rintro e w9 ⟨rfl, rfl⟩
          go_simp
          refine hK.out _ _ (RG.Grew.refl _) ?_
          clear hK K
          repeat (refine RG.take (by rfl) (by intro W hW; have g2 := HF28.out W hW; go_simp; with_reducible rfl) ?_; simp only [Act.put, List.setIfInBounds_toArray, List.set_cons_zero, List.set_cons_succ])
          refine RG.alone (by rfl) (fun K hK => ?_)
          go_simp
          refine (count_any g b cap M w8 (HFD.out.below HB8.out)).mono ?_
          rintro e w9 ⟨rfl, rfl⟩
          go_simp
          refine hK.out _ _ (RG.Grew.refl _) ?_
          clear hK K
          refine RG.alone (by rfl) (fun K hK => ?_)
          go_simp
          refine (rcount_any (.slice up M.length ucap) M w8 (HROW.out w8 HB8.out) hhi).mono ?_
          rintro e w9 ⟨rfl, b9⟩
          go_simp
          refine hK.out _ _ b9 ?_
          clear hK K
          have HB9 := Lib.hid (HB2.out.trans ((HB.out.trans ((HBD.out.trans ((HB8.out.trans (b9.mono HB8.out.size)).mono HBD.out.size)).mono HB.out.size)).mono HB2.out.size))
          clear b9
          repeat (refine RG.take (by rfl) (by intro W hW; go_simp; with_reducible rfl) ?_; simp only [Act.put, List.setIfInBounds_toArray, List.set_cons_zero, List.set_cons_succ])
          refine RG.done ?_
          go_wp2_with fail
          go_ret
          exact ⟨rfl, HB9.out⟩
/-- The law, at any number. -/
theorem runs_walk (n : Int) (v0 v1 : Value) (ls qs : List (List UInt8)) (w : World) (h0 : TRow w v0 ls) (h1 : TRow w v1 qs) :
    Calls Try.prog 3 #[.int .i64 n, v0, v1] w fun e w' => e = .returned (.bool true) ∧ Below w.heap.size w w' := by
  by_cases h : n < 0 ∨ 262144 < n
  · exact runs_no n v0 v1 ls qs w h h0 h1
  · obtain ⟨k, rfl⟩ : ∃ k : Nat, n = (k : Int) := ⟨n.toNat, by omega⟩
    exact runs_yes k v0 v1 ls qs w (by omega) h0 h1
end Go.Proofs.Ytjogjmkfkmbjdaa.BL
