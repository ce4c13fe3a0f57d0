/-
  The reference's Read, AddAll, Of. Condition: at most a thousand texts, each of at most a million bytes.
-/
import Derived.Test.YtjogjmkfkmbjdaaBlmRNew
import Derived.Test.YtjogjmkfkmbjdaaRegT
import Derived.Test.YtjogjmkfkmbjdaaMemStrs
set_option linter.unusedVariables false
namespace Go.Proofs.Ytjogjmkfkmbjdaa.BL
open Go.RowKit Go.Proofs.Ytjogjmkfkmbjdaa.MM Go.Proofs.Ytjogjmkfkmbjdaa.BM

theorem own_lt {w : World} {b n cap : Nat} {L : List UInt8} (h : OwnB b w (.slice (some ⟨b, 0, none⟩) n cap) L) (hl : 0 < L.length) : b < w.heap.size := by
  have hc := OwnB.cell h (List.getElem?_eq_getElem hl)
  by_cases hb : b < w.heap.size
  · exact hb
  · simp [World.cell?, Array.getElem?_eq_none (Nat.le_of_not_lt hb)] at hc
/-- Bytes that stay while the blocks of S stay. -/
def Held (S : Nat → Prop) (w : World) (v : Value) (L : List UInt8) : Prop := ∀ w', Kep S w w' → BRow w' v L
theorem Held.keep {S : Nat → Prop} {w w' : World} {v : Value} {L : List UInt8} (h : Held S w v L) (hk : Kep S w w') : Held S w' v L := fun w2 h2 => h w2 (hk.trans h2)
theorem Held.row {S : Nat → Prop} {w : World} {v : Value} {L : List UInt8} (h : Held S w v L) : BRow w v L := h w (Kep.refl S w)
theorem held_own {S : Nat → Prop} {w : World} {b n cap : Nat} {L : List UInt8} (h : OwnB b w (.slice (some ⟨b, 0, none⟩) n cap) L) (hl : 0 < L.length) (hS : S b) : Held S w (.slice (some ⟨b, 0, none⟩) n cap) L :=
  fun w' hk => (own_block h (hk.block b (own_lt h hl) hS)).brow

theorem kep_realloc {S : Nat → Prop} {w : World} (x y : Obj) (hS : ∀ k, S k → k < w.heap.size) : Kep S (w.alloc x) (w.alloc y) :=
  ⟨rfl, rfl, rfl, by simp, fun k _ hs => ((kep_alloc (fun _ => True) w y).block k (hS k hs) trivial).trans ((kep_alloc (fun _ => True) w x).block k (hS k hs) trivial).symm⟩
/-! ### Read -/
set_option maxRecDepth 100000 in
theorem rread_no (v : Value) (l : List UInt8) (w : World) (h : BRow w v l) (hl : l.length < 8) : Calls Try.prog 22 #[v] w fun e w' => e = .returned (.tuple #[.agg #[.slice none 0 0], .int .i64 90]) ∧ Below w.heap.size w w' := by
  obtain ⟨p, cap, rfl, _, _⟩ := h.shape
  have t1 : decide ((l.length : Int) < 8) = true := by rw [decide_eq_true_eq]; omega
  have hg := heap_alloc_new w (.cells #[.slice none 0 0] 30)
  obtain ⟨q1, q2, q3, _⟩ := box_one hg (.slice none 0 0)
  have HG := Lib.hid hg
  have HB := Lib.hid ((Below.refl w.heap.size w).alloc (Nat.le_refl _) (.cells #[.slice none 0 0] 30))
  clear hg q3 h
  go_enter Try.func22, Try.ntmps22
  go_wp2_with fail
  refine bodyPost_ret (results_fil_two rfl _ _ w.heap.size _ rfl HG.out) rfl ⟨rfl, HB.out⟩
set_option maxRecDepth 100000 in
set_option maxHeartbeats 1000000 in
theorem rread_any (v : Value) (l : List UInt8) (w : World) (h : BRow w v l) (hlo : 8 ≤ l.length) (hhi : l.length ≤ 131072) : Calls Try.prog 22 #[v] w (RNewLeft l w) := by
  obtain ⟨p, cap, rfl, _, _⟩ := h.shape
  have t1 : decide ((l.length : Int) < 8) = false := by rw [decide_eq_false_iff_not]; omega
  have t2 : decide ((l.length : Int) > 131072) = false := by rw [decide_eq_false_iff_not]; omega
  have hg := heap_alloc_new w (.cells #[.slice none 0 0] 30)
  have hb := (Below.refl w.heap.size w).alloc (Nat.le_refl _) (.cells #[.slice none 0 0] 30)
  have hsz : (w.alloc (.cells #[.slice none 0 0] 30)).heap.size = w.heap.size + 1 := by simp
  have ho := own_empty (w.alloc (.cells #[.slice none 0 0] 30)) _ (Nat.le_refl _)
  have hbe := (Below.refl _ (w.alloc (.cells #[.slice none 0 0] 30))).alloc (Nat.le_refl _) (.cells #[] 5)
  have hsz2 : ((w.alloc (.cells #[.slice none 0 0] 30)).alloc (.cells #[] 5)).heap.size = w.heap.size + 1 + 1 := by simp
  have hr1 := h.below (hb.trans (hbe.mono hb.size))
  have hb2 := hb.trans (hbe.mono hb.size)
  rw [hsz] at ho hbe
  have hg2 := (hbe.block w.heap.size (by omega)).trans hg
  have HO := Lib.hid ho
  have HR1 := Lib.hid hr1
  have HB2 := Lib.hid hb2
  have HSZ2 := Lib.hid hsz2
  have HG2 := Lib.hid hg2
  clear hg hb hsz ho hbe hr1 hb2 hsz2 hg2 h
  go_enter Try.func22, Try.ntmps22
  go_wp2_with (at_builtin; go_loud (refine wpList_append_bytes rfl _ _ rfl (w.heap.size + 1) _ [] rfl HO.out _ l rfl HR1.out (by simp; omega) (by rw [HSZ2.out]; omega) ?_))
  intro v3 w3 ho3 hb3
  change OwnB (w.heap.size + 1) w3 v3 l at ho3
  obtain ⟨b, cap3, rfl, hbb, _, _⟩ := OwnB.shape ho3 (by omega)
  have hgb := (hb3.block w.heap.size (by omega)).trans HG2.out
  obtain ⟨q1, q2, q3, q4⟩ := box_one hgb (.slice (some ⟨b, 0, none⟩) l.length cap3)
  have HQ := Lib.hid q3
  have HO3 := Lib.hid (own_lift (own_block (own_at ho3) (q4.block b (own_lt (own_at ho3) (by omega)) (by omega))) (by omega : w.heap.size ≤ b))
  have HBE := Lib.hid (below_set (i := 0) (.slice (some ⟨b, 0, none⟩) l.length cap3) (HB2.out.trans (hb3.mono (by omega))) (Nat.le_refl w.heap.size))
  clear ho3 hb3 hgb q3 q4
  go_wp2_with fail
  refine bodyPost_ret (results_fil_two rfl _ _ w.heap.size _ rfl HQ.out) rfl ⟨_, rfl, HO3.out, HBE.out⟩

/-! ### AddAll -/
/-- What AddAll leaves. -/
def RAllLeft (S : Nat → Prop) (r : List UInt8 × Nat) (w : World) (e : Ending) (w' : World) : Prop := ∃ v, e = .returned (.tuple #[.agg #[v], .int .i64 (r.2 : Int)]) ∧ Held S w' v r.1 ∧ Below w.heap.size w w'
set_option maxRecDepth 100000 in
set_option maxHeartbeats 4000000 in
theorem raddall_any (S : Nat → Prop) (v : Value) (L : List UInt8) (ts : Value) (ss : List (List UInt8)) (w : World) (h : Held S w v L) (hS : ∀ k, w.heap.size ≤ k → S k) (ht : TRow w ts ss) (hss : ss.length ≤ 1000) (hs : ∀ s ∈ ss, s.length ≤ 1000000) (hlo : 8 ≤ L.length) (hhi : L.length ≤ 131072) :
    Calls Try.prog 34 #[.agg #[v], ts] w (RAllLeft S (addA L ss) w) := by
  obtain ⟨p, cap, rfl, hlc, hcm⟩ := h.row.shape
  obtain ⟨tp, tcap, rfl, htc, htm⟩ := TIn.shape ht
  have hb1 : Below w.heap.size w ((w.alloc (.cells #[.slice p L.length cap] 30)).alloc (.cells #[.slice none 0 0] 30)) := ((Below.refl _ _).alloc (Nat.le_refl _) _).alloc (by simp) _
  have hsz1 : ((w.alloc (.cells #[.slice p L.length cap] 30)).alloc (.cells #[.slice none 0 0] 30)).heap.size = w.heap.size + 1 + 1 := by simp
  have hg0 : ((w.alloc (.cells #[.slice p L.length cap] 30)).alloc (.cells #[.slice none 0 0] 30)).heap[w.heap.size]? = some (.cells #[.slice p L.length cap] 30 (0, 0)) := by
    have e := heap_alloc_new w (.cells #[.slice p L.length cap] 30)
    rw [((Below.refl (w.heap.size + 1) (w.alloc (.cells #[.slice p L.length cap] 30))).alloc (by simp) _).block w.heap.size (by omega)]
    exact e
  have hg1 : Bare ((w.alloc (.cells #[.slice p L.length cap] 30)).alloc (.cells #[.slice none 0 0] 30)) (w.heap.size + 1) := by
    have e := heap_alloc_new (w.alloc (.cells #[.slice p L.length cap] 30)) (.cells #[.slice none 0 0] 30)
    rw [show (w.alloc (.cells #[.slice p L.length cap] 30)).heap.size = w.heap.size + 1 by simp] at e
    exact e
  obtain ⟨W1, hW1⟩ : ∃ W1, (w.alloc (.cells #[.slice p L.length cap] 30)).alloc (.cells #[.slice none 0 0] 30) = W1 := ⟨_, rfl⟩
  rw [hW1] at hb1 hsz1 hg0 hg1
  have hh0 : Held (fun k => S k ∧ k ≠ w.heap.size ∧ k ≠ w.heap.size + 1) W1 (.slice p L.length cap) (addA L (ss.take 0)).1 := fun w' hk => h w' ((kep_below S hb1).andThen hk fun i hi hs => ⟨hs, by omega, by omega⟩)
  have HT := Lib.hid (fun W (hb : Below w.heap.size w W) => TIn.below ht hb)
  have HADD := Lib.hid (fun v M s W (hr : BRow W v M) (hs : List.length s ≤ 1000000) (hl : M.length = L.length) => radd_any v M s W hr hs (by omega) (by omega))
  have HLN := Lib.hid (fun k => addA_len L ss k)
  have HCN := Lib.hid (addA_count L ss)
  have HNX := Lib.hid (fun k (hk : k < ss.length) => addA_next (L := L) hk)
  have HSE := Lib.hid hs
  obtain ⟨R, hR⟩ : ∃ R, addA L ss = R := ⟨_, rfl⟩
  have HE : Hid (addA L (ss.take ss.length) = R) := Lib.hid (by rw [List.take_length]; exact hR)
  have HLO := Lib.hid hlo
  rw [hR]
  have HW1 := Lib.hid hW1
  have HB1 := Lib.hid hb1
  have HG0 := Lib.hid hg0
  have HG1 := Lib.hid hg1
  have HSS := Lib.hid hS
  have HH0 := Lib.hid hh0
  have HSZ1 := Lib.hid hsz1
  clear h ht hs hb1 hsz1 hg0 hg1 hW1 hh0 hR hlo hhi hS
  go_enter Try.func34, Try.ntmps34
  go_wp2_with fail
  rw [HW1.out]
  go_loopw [6, 7] (fun nv iv wr => ∃ (k : Nat) (u : Value), k ≤ ss.length ∧ nv = .int .i64 ((addA L (ss.take k)).2 : Int) ∧ iv = .int .i64 k ∧ Hid (wr.heap[w.heap.size]? = some (.cells #[u] 30 (0, 0))) ∧ Hid (Held (fun k => S k ∧ k ≠ w.heap.size ∧ k ≠ w.heap.size + 1) wr u (addA L (ss.take k)).1) ∧ Hid (Bare wr (w.heap.size + 1)) ∧ Hid (Below w.heap.size w wr)) (fun _ iv _ => ss.length - (intOf iv).toNat)
  case atStart => exact ⟨0, _, by omega, rfl, rfl, HG0, HH0, HG1, HB1⟩
  case round =>
    obtain ⟨k, u, hk, rfl, rfl, HG, HH, HBA, HB⟩ := hrel
    clear HG0 HH0 HG1 HB1
    by_cases hlt : k < ss.length
    · have t1 : decide ((k : Int) < (ss.length : Int)) = true := by simp; omega
      obtain ⟨bt, off, rfl, hbl, hcell⟩ := TIn.at_ (HT.out wr HB.out) hlt
      have hnx := HNX.out k hlt
      have hcn := HCN.out k
      have hln := HLN.out k
      have hse := HSE.out _ (List.getElem_mem hlt)
      obtain ⟨s, hs⟩ : ∃ s, ss[k] = s := ⟨_, rfl⟩
      rw [hs] at hcell hnx hse
      obtain ⟨⟨M, c⟩, hM⟩ : ∃ M, addA L (ss.take k) = M := ⟨_, rfl⟩
      rw [hM] at hnx hcn hln HH ⊢
      dsimp only at hnx hcn hln HH ⊢
      obtain ⟨⟨M', c'⟩, hM'⟩ : ∃ M', addT M s = M' := ⟨_, rfl⟩
      have hcl := addT_count M s
      have hlen' := addT_len M s
      have hadd := fun W (hr : BRow W u M) => HADD.out u M s W hr hse hln
      rw [hM'] at hnx hcl hlen'
      simp only [hM'] at hadd
      dsimp only at hnx hcl hlen'
      obtain ⟨up, ucap, rfl, _, _⟩ := HH.out.row.shape
      have HNN := Lib.hid hnx
      have HAD := Lib.hid hadd
      have HL' := Lib.hid (show 8 ≤ M'.length by rw [hlen', hln]; exact HLO.out)
      clear hs hnx hM hM' hse hlen' hadd hln
      obtain ⟨wd, hwd⟩ : ∃ wd, wr.drew = wd := ⟨_, rfl⟩
      have hkd : Kep (fun _ => True) wr wd := by rw [← hwd]; exact kep_draw _ _
      have hbd : Below w.heap.size w wd := by rw [← hwd]; exact HB.out.drew
      have hgd : wd.heap[w.heap.size]? = _ := (hkd.block w.heap.size (Array.getElem?_eq_some_iff.1 HG.out).1 trivial).trans HG.out
      have hbr : BRow wd (.slice up M.length ucap) M := HH.out wd (hkd.mono fun _ _ => trivial)
      have hba : Bare wd (w.heap.size + 1) := (hkd.block _ HBA.out.lt trivial).trans HBA.out
      have hszd := hba.lt
      have hcd : wd.cell? ⟨bt, off + k, none⟩ = some (.string ⟨s.toArray⟩) := (hbd.cell (p := ⟨bt, off + k, none⟩) hbl).trans ((HB.out.cell (p := ⟨bt, off + k, none⟩) hbl).symm.trans hcell)
      have hca : wd.cell? ⟨w.heap.size, 0, none⟩ = some (.slice up M.length ucap) := by rw [cell_of_row _ _ 0 _ _ _ hgd]; rfl
      have HGD := Lib.hid hgd
      have HBR := Lib.hid hbr
      have HBAD := Lib.hid hba
      have HBD := Lib.hid hbd
      have f1 := fun W (hW : Kep (fun c => c < wd.heap.size) wd W) => (hW.cell (b := bt) (Nat.lt_of_lt_of_le hbl hbd.size) (Nat.lt_of_lt_of_le hbl hbd.size) (off + k)).trans hcd
      have f2 := fun W (hW : Kep (fun c => c < wd.heap.size) wd W) => (hW.cell (b := w.heap.size) (by omega) (show w.heap.size < wd.heap.size by omega) 0).trans hca
      have HF1 := Lib.hid f1
      have HF2 := Lib.hid f2
      -- what stands behind the region
      have hend : ∀ (W6 : World) (b c6 cp : Nat), OwnB b W6 (.slice (some ⟨b, 0, none⟩) M'.length cp) M' → w.heap.size + 2 ≤ b → b < W6.heap.size → W6.heap[w.heap.size]? = some (.cells #[.slice up M.length ucap] 30 (0, 0)) → Bare W6 (w.heap.size + 1) → Below w.heap.size w W6 →
          (W6.setCell ⟨w.heap.size, 0, none⟩ (.slice (some ⟨b, 0, none⟩) M'.length cp)).heap[w.heap.size]? = some (.cells #[.slice (some ⟨b, 0, none⟩) M'.length cp] 30 (0, 0)) ∧
          Held (fun k => S k ∧ k ≠ w.heap.size ∧ k ≠ w.heap.size + 1) (W6.setCell ⟨w.heap.size, 0, none⟩ (.slice (some ⟨b, 0, none⟩) M'.length cp)) (.slice (some ⟨b, 0, none⟩) M'.length cp) M' ∧
          Bare (W6.setCell ⟨w.heap.size, 0, none⟩ (.slice (some ⟨b, 0, none⟩) M'.length cp)) (w.heap.size + 1) ∧ Below w.heap.size w (W6.setCell ⟨w.heap.size, 0, none⟩ (.slice (some ⟨b, 0, none⟩) M'.length cp)) := fun W6 b c6 cp ho hb hbl hg hba hbw => by
        obtain ⟨q1, q2, q3, q4⟩ := box_one hg (.slice (some ⟨b, 0, none⟩) M'.length cp)
        have h8 := HL'.out
        exact ⟨q3, held_own (own_block ho (q4.block b hbl (by omega))) (by omega) ⟨HSS.out b (by omega), by omega, by omega⟩, hba.other (by omega), below_set _ hbw (Nat.le_refl _)⟩
      have HEND := Lib.hid hend
      clear hkd hbd hgd hbr hba hcd hca f1 f2 hcell hend HG HH HBA HB
      go_wp2_with fail
      refine RT.begin_ (T := fun c => c < wd.heap.size) (.take 0 <| .take 1 <| .take 2 <| .take 3 <| .take 4 <| .both 5 9 (.take 6 <| .take 7 <| .take 8 <| .alone 9 <| .alone 10 <| .take 11 <| .done) (.alone 5 <| .take 6 <| .take 7 <| .take 8 <| .alone 10 <| .take 11 <| .done)) (by kernel_rfl) (by kernel_rfl) rfl (by kernel_rfl) (fun _ _ d _ _ h => by cases d <;> exact h) ?_
      simp only [RT.ordered, List.getElem?_toArray, List.getElem?_cons_succ, List.getElem?_cons_zero]
      rw [hwd]
      repeat (refine RT.take (by rfl) (by intro W hW; have g1 := HF1.out W hW; have g2 := HF2.out W hW; go_simp; with_reducible rfl) ?_; simp only [Act.put, List.setIfInBounds_toArray, List.set_cons_zero, List.set_cons_succ])
      refine RT.both ?_ ?_
      · refine RT.step (by rfl) (fun K hK => ?_)
        go_simp
        refine (HAD.out _ HBR.out).mono ?_
        rintro e w5 ⟨v5, rfl, ho5, hb5⟩
        change OwnB wd.heap.size w5 v5 M' at ho5
        go_simp
        refine hK.out _ _ (kep_below _ hb5) ?_
        clear hK K
        have h8 := HL'.out
        obtain ⟨b, cp, rfl, hbb, _, _⟩ := OwnB.shape ho5 (by omega)
        have hlb := own_lt (own_at ho5) (by omega)
        have HO5 := Lib.hid (own_at ho5)
        have HB5 := Lib.hid hb5
        have HLB := Lib.hid hlb
        clear ho5 hb5 hlb h8
        repeat (refine RT.take (by rfl) (by intro W hW; go_simp; with_reducible rfl) ?_; simp only [Act.put, List.setIfInBounds_toArray, List.set_cons_zero, List.set_cons_succ])
        refine RT.alone (RT.step (by rfl) (fun K hK => ?_))
        go_simp
        refine hK.out _ _ (kep_alloc _ _ _) ?_
        clear hK K
        refine RT.alone (RT.step (by rfl) (fun K hK => ?_))
        have hs5 := HB5.out.size
        have hlb := HLB.out
        go_simp
        refine hK.out _ _ (kep_realloc _ _ fun c hc => by have : c < wd.heap.size := hc; omega) ?_
        clear hK K
        have hgn := heap_alloc_new w5 (.cells #[.slice (some ⟨b, 0, none⟩) M'.length cp] 30)
        have hka := kep_alloc (fun _ => True) w5 (.cells #[.slice (some ⟨b, 0, none⟩) M'.length cp] 30)
        have ho6 := own_block HO5.out (hka.block b HLB.out trivial)
        have hb6 : Below wd.heap.size wd (w5.alloc (.cells #[.slice (some ⟨b, 0, none⟩) M'.length cp] 30)) := HB5.out.alloc hs5 _
        have hz6 : (w5.alloc (.cells #[.slice (some ⟨b, 0, none⟩) M'.length cp] 30)).heap.size = w5.heap.size + 1 := by simp
        have hsa := HBAD.out.lt
        have hg6 := (hb6.block w.heap.size (by omega)).trans HGD.out
        have hba6 := HBAD.out.keep hb6 hsa
        have hbw6 := HBD.out.trans (hb6.mono HBD.out.size)
        have HX := Lib.hid (HEND.out _ b w5.heap.size cp ho6 (by omega) (by rw [hz6]; omega) hg6 hba6 hbw6)
        obtain ⟨W6, hW6⟩ : ∃ W6, w5.alloc (.cells #[.slice (some ⟨b, 0, none⟩) M'.length cp] 30) = W6 := ⟨_, rfl⟩
        rw [hW6] at HX hgn hg6 ⊢
        have hc6 : W6.cell? ⟨w5.heap.size, 0, none⟩ = some (.slice (some ⟨b, 0, none⟩) M'.length cp) := by rw [cell_of_row _ _ 0 _ _ _ hgn]; rfl
        have hc7 : W6.cell? ⟨w.heap.size, 0, none⟩ = some (.slice up M.length ucap) := by rw [cell_of_row _ _ 0 _ _ _ hg6]; rfl
        have hf7 := frozen_of_row W6 w.heap.size 0 _ _ hg6
        clear hgn hka ho6 hb6 hz6 hsa hg6 hba6 hbw6 hW6 hs5 hlb
        repeat (refine RT.take (by rfl) (by intro W hW; go_simp; with_reducible rfl) ?_; simp only [Act.put, List.setIfInBounds_toArray, List.set_cons_zero, List.set_cons_succ])
        refine RT.done ?_
        go_wp2_with fail
        go_roundw
        case rel => exact ⟨k + 1, _, by omega, by rw [HNN.out]; go_num, by go_num, Lib.hid HX.out.1, by rw [HNN.out]; exact Lib.hid HX.out.2.1, Lib.hid HX.out.2.2.1, Lib.hid HX.out.2.2.2⟩
        case measure => simp [intOf]; omega
      · refine RT.step (by rfl) (fun K hK => ?_)
        go_simp
        refine hK.out _ _ (kep_alloc _ _ _) ?_
        clear hK K
        have hgn := heap_alloc_new wd (.cells #[.slice none 0 0] 30)
        have hba := (Below.refl wd.heap.size wd).alloc (Nat.le_refl _) (.cells #[.slice none 0 0] 30)
        have hza : (wd.alloc (.cells #[.slice none 0 0] 30)).heap.size = wd.heap.size + 1 := by simp
        obtain ⟨Wa, hWa⟩ : ∃ Wa, wd.alloc (.cells #[.slice none 0 0] 30) = Wa := ⟨_, rfl⟩
        rw [hWa] at hgn hba hza ⊢
        have HGN := Lib.hid hgn
        have HBA := Lib.hid hba
        have HZA := Lib.hid hza
        clear hgn hba hza hWa
        refine RT.alone (RT.step (by rfl) (fun K hK => ?_))
        go_simp
        refine (HAD.out _ (HBR.out.below HBA.out)).mono ?_
        rintro e w5 ⟨v5, rfl, ho5, hb5⟩
        change OwnB Wa.heap.size w5 v5 M' at ho5
        go_simp
        have hbz := HBA.out.size
        refine hK.out _ _ (kep_below _ hb5) ?_
        clear hK K
        have h8 := HL'.out
        obtain ⟨b, cp, rfl, hbb, _, _⟩ := OwnB.shape ho5 (by omega)
        have hlb := own_lt (own_at ho5) (by omega)
        have HO5 := Lib.hid (own_at ho5)
        have HLB := Lib.hid hlb
        have hg5 := (hb5.block wd.heap.size (by have := HZA.out; omega)).trans HGN.out
        have HG5 := Lib.hid hg5
        have HB5 := Lib.hid (HBA.out.trans (hb5.mono hbz))
        have HBB := Lib.hid (show wd.heap.size < b by have := HZA.out; omega)
        clear ho5 hb5 hlb h8 hg5 hbb hbz
        repeat (refine RT.take (by rfl) (by intro W hW; go_simp; with_reducible rfl) ?_; simp only [Act.put, List.setIfInBounds_toArray, List.set_cons_zero, List.set_cons_succ])
        refine RT.alone (RT.step (by rfl) (fun K hK => ?_))
        obtain ⟨z1, z2, z3, z4⟩ := box_one HG5.out (.slice (some ⟨b, 0, none⟩) M'.length cp)
        have hs5 := HB5.out.size
        have hlb := HLB.out
        have hbb := HBB.out
        go_simp
        refine hK.out _ _ (z4.mono' fun c _ hc => by show c ≠ wd.heap.size; have : c < wd.heap.size := hc; omega) ?_
        clear hK K
        have ho6 := own_block HO5.out (z4.block b hlb (by omega))
        have hb6 : Below wd.heap.size wd (w5.setCell ⟨wd.heap.size, 0, none⟩ (.slice (some ⟨b, 0, none⟩) M'.length cp)) := below_set _ HB5.out (Nat.le_refl _)
        have hz6 : (w5.setCell ⟨wd.heap.size, 0, none⟩ (.slice (some ⟨b, 0, none⟩) M'.length cp)).heap.size = w5.heap.size := by simp
        have hsa := HBAD.out.lt
        have hg6 := (hb6.block w.heap.size (by omega)).trans HGD.out
        have hba6 := HBAD.out.keep hb6 hsa
        have hbw6 := HBD.out.trans (hb6.mono HBD.out.size)
        have HX := Lib.hid (HEND.out _ b wd.heap.size cp ho6 (by omega) (by rw [hz6]; omega) hg6 hba6 hbw6)
        obtain ⟨W6, hW6⟩ : ∃ W6, w5.setCell ⟨wd.heap.size, 0, none⟩ (.slice (some ⟨b, 0, none⟩) M'.length cp) = W6 := ⟨_, rfl⟩
        rw [hW6] at HX z3 hg6 ⊢
        have hc6 : W6.cell? ⟨wd.heap.size, 0, none⟩ = some (.slice (some ⟨b, 0, none⟩) M'.length cp) := by rw [cell_of_row _ _ 0 _ _ _ z3]; rfl
        have hc7 : W6.cell? ⟨w.heap.size, 0, none⟩ = some (.slice up M.length ucap) := by rw [cell_of_row _ _ 0 _ _ _ hg6]; rfl
        have hf7 := frozen_of_row W6 w.heap.size 0 _ _ hg6
        clear z1 z2 z3 z4 ho6 hb6 hz6 hsa hg6 hba6 hbw6 hW6 hs5 hlb hbb
        repeat (refine RT.take (by rfl) (by intro W hW; go_simp; with_reducible rfl) ?_; simp only [Act.put, List.setIfInBounds_toArray, List.set_cons_zero, List.set_cons_succ])
        refine RT.done ?_
        go_wp2_with fail
        go_roundw
        case rel => exact ⟨k + 1, _, by omega, by rw [HNN.out]; go_num, by go_num, Lib.hid HX.out.1, by rw [HNN.out]; exact Lib.hid HX.out.2.1, Lib.hid HX.out.2.2.1, Lib.hid HX.out.2.2.2⟩
        case measure => simp [intOf]; omega
    · obtain rfl : k = ss.length := by omega
      have t1 : decide ((ss.length : Int) < (ss.length : Int)) = false := by simp
      rw [HE.out] at HH ⊢
      obtain ⟨up, ucap, rfl, _, _⟩ := HH.out.row.shape
      obtain ⟨rn, hrn⟩ : ∃ rn, R.1.length = rn := ⟨_, rfl⟩
      rw [hrn] at HH HG
      clear hrn
      obtain ⟨q1, q2, q3, q4⟩ := box_one HBA.out (.slice up rn ucap)
      have hcu : wr.cell? ⟨w.heap.size, 0, none⟩ = some (.slice up rn ucap) := by rw [cell_of_row _ _ 0 _ _ _ HG.out]; rfl
      have HQ := Lib.hid q3
      have HBE := Lib.hid (below_set (i := 0) (.slice up rn ucap) HB.out (by omega : w.heap.size ≤ w.heap.size + 1))
      have hbr : Held S (wr.setCell ⟨w.heap.size + 1, 0, none⟩ (.slice up rn ucap)) (.slice up rn ucap) R.1 := fun w' hk => HH.out w' ((q4.mono fun k hk => hk.2.2).trans (hk.mono fun k hk => hk.1))
      have HBR := Lib.hid hbr
      clear q3 q4 hbr
      go_wp2_with fail
      refine bodyPost_ret (results_fil_two rfl _ _ (w.heap.size + 1) _ rfl HQ.out) rfl ⟨_, rfl, HBR.out, HBE.out⟩

/-! ### Of -/
theorem held_true {w : World} {v : Value} {L : List UInt8} (h : BRow w v L) : Held (fun _ => True) w v L := fun w' hk => h.below (hk.below (Nat.le_refl _) fun _ _ => trivial)
/-- What the reference's Of leaves. -/
def ROfLeft (L : List UInt8) (w : World) (e : Ending) (w' : World) : Prop := ∃ v, e = .returned (.agg #[v]) ∧ BRow w' v L ∧ Below w.heap.size w w'
set_option maxRecDepth 100000 in
set_option maxHeartbeats 1000000 in
theorem rof_any (ts : Value) (ss : List (List UInt8)) (w : World) (ht : TRow w ts ss) (hss : ss.length ≤ 1000) (hs : ∀ s ∈ ss, s.length ≤ 1000000) : Calls Try.prog 20 #[ts] w (ROfLeft (addA (newL ss.length) ss).1 w) := by
  obtain ⟨tp, tcap, rfl, htc, htm⟩ := TIn.shape ht
  have hg := heap_alloc_new w (.cells #[.slice none 0 0] 30)
  have hb := (Below.refl w.heap.size w).alloc (Nat.le_refl _) (.cells #[.slice none 0 0] 30)
  have hsz : (w.alloc (.cells #[.slice none 0 0] 30)).heap.size = w.heap.size + 1 := by simp
  obtain ⟨W1, hW1⟩ : ∃ W1, w.alloc (.cells #[.slice none 0 0] 30) = W1 := ⟨_, rfl⟩
  rw [hW1] at hg hb hsz
  have HN := Lib.hid (rnew_any ss.length W1 (by omega))
  have hrl := roomL_le ss.length
  rw [← newL_len] at hrl
  have HT := Lib.hid (fun W (hb : Below w.heap.size w W) => TIn.below ht hb)
  have HALL := Lib.hid (fun S v W (h : Held S W v (newL ss.length)) (hS : ∀ k, W.heap.size ≤ k → S k) (ht : TRow W (.slice tp ss.length tcap) ss) => raddall_any S v (newL ss.length) _ ss W h hS ht hss hs hrl.1 hrl.2)
  obtain ⟨⟨R, c⟩, hR⟩ : ∃ R, addA (newL ss.length) ss = R := ⟨_, rfl⟩
  rw [hR] at HALL ⊢
  unfold RAllLeft at HALL
  dsimp only at HALL ⊢
  obtain ⟨N, hN⟩ : ∃ N, newL ss.length = N := ⟨_, rfl⟩
  rw [hN] at HN HALL hrl
  have t1 : (min (ss.length : Int) 262144) = (ss.length : Int) := by omega
  have HG := Lib.hid hg
  have HB := Lib.hid hb
  have HSZ := Lib.hid hsz
  have HW1 := Lib.hid hW1
  have HRL := Lib.hid hrl
  clear hR hN ht hg hb hsz hW1 hrl hs
  go_enter Try.func20, Try.ntmps20
  go_wp2_with fail
  rw [HW1.out]
  refine HN.out.mono ?_
  rintro e w1 ⟨v, rfl, ho, hb1⟩
  have hrl := HRL.out
  obtain ⟨b, cp, rfl, hbb, _, _⟩ := OwnB.shape ho (by omega)
  have ho1 := own_at ho
  have hlb := own_lt ho1 (by omega)
  have hs1 := hb1.size
  have hz := HSZ.out
  -- the second box
  have hg2 := heap_alloc_new w1 (.cells #[.slice (some ⟨b, 0, none⟩) N.length cp] 30)
  have hk2 := kep_alloc (fun _ => True) w1 (.cells #[.slice (some ⟨b, 0, none⟩) N.length cp] 30)
  have hz2 : (w1.alloc (.cells #[.slice (some ⟨b, 0, none⟩) N.length cp] 30)).heap.size = w1.heap.size + 1 := by simp
  have hb2 : Below W1.heap.size W1 (w1.alloc (.cells #[.slice (some ⟨b, 0, none⟩) N.length cp] 30)) := hb1.alloc hs1 _
  have ho2 := own_block ho1 (hk2.block b hlb trivial)
  have hga := (hb2.block w.heap.size (by omega)).trans HG.out
  have hh2 : Held (fun k => k ≠ w.heap.size ∧ k ≠ w1.heap.size) _ _ N := held_own ho2 (by omega) ⟨by omega, by omega⟩
  have hbw := HB.out.trans (hb2.mono HB.out.size)
  have hall := HALL.out _ _ _ hh2 (fun k hk => ⟨by omega, by omega⟩) ((HT.out _ hbw).mono hbw.size)
  obtain ⟨W2, hW2⟩ : ∃ W2, w1.alloc (.cells #[.slice (some ⟨b, 0, none⟩) N.length cp] 30) = W2 := ⟨_, rfl⟩
  rw [hW2] at hg2 hz2 hga hall hbw
  have hc2 : W2.cell? ⟨w1.heap.size, 0, none⟩ = some (.slice (some ⟨b, 0, none⟩) N.length cp) := by rw [cell_of_row _ _ 0 _ _ _ hg2]; rfl
  have HA := Lib.hid hall
  have HG2 := Lib.hid hg2
  have HGA := Lib.hid hga
  have HBW := Lib.hid hbw
  have HW2 := Lib.hid hW2
  have HZ2 := Lib.hid hz2
  have HZ1 := Lib.hid (show w.heap.size < w1.heap.size by omega)
  clear ho hb1 hrl ho1 hlb hs1 hz hg2 hk2 hz2 hb2 ho2 hga hh2 hbw hall hW2 hbb
  go_wp2_with fail
  rw [HW2.out]
  refine HA.out.mono ?_
  rintro e w3 ⟨v3, rfl, hh3, hb3⟩
  obtain ⟨p3, cp3, rfl, _, _⟩ := hh3.row.shape
  have hgc := (hb3.block w1.heap.size (by have := HZ2.out; omega)).trans HG2.out
  have hga := (hb3.block w.heap.size (by have := HZ2.out; have := HZ1.out; omega)).trans HGA.out
  obtain ⟨rn, hrn⟩ : ∃ rn, R.length = rn := ⟨_, rfl⟩
  rw [hrn] at hh3 ⊢
  obtain ⟨q1, q2, q3, q4⟩ := box_one hgc (.slice p3 rn cp3)
  have hgb : (w3.setCell ⟨w1.heap.size, 0, none⟩ (.slice p3 rn cp3)).heap[w.heap.size]? = _ := (q4.block w.heap.size (Array.getElem?_eq_some_iff.1 hga).1 (by have := HZ1.out; omega)).trans hga
  obtain ⟨y1, y2, y3, y4⟩ := box_one hgb (.slice p3 rn cp3)
  have hc4 : (w3.setCell ⟨w1.heap.size, 0, none⟩ (.slice p3 rn cp3)).cell? ⟨w1.heap.size, 0, none⟩ = some (.slice p3 rn cp3) := by rw [cell_of_row _ _ 0 _ _ _ q3]; rfl
  have hbr : BRow ((w3.setCell ⟨w1.heap.size, 0, none⟩ (.slice p3 rn cp3)).setCell ⟨w.heap.size, 0, none⟩ (.slice p3 rn cp3)) (.slice p3 rn cp3) R := hh3 _ ((q4.mono fun k hk => hk.2).trans (y4.mono fun k hk => hk.1))
  have HBR := Lib.hid hbr
  have HBE := Lib.hid (below_set (i := 0) (.slice p3 rn cp3) (below_set (i := 0) (.slice p3 rn cp3) (HBW.out.trans (hb3.mono HBW.out.size)) (by have := HZ1.out; omega : w.heap.size ≤ w1.heap.size)) (Nat.le_refl w.heap.size))
  have HY := Lib.hid y3
  clear hh3 hb3 hgc hga hrn q3 q4 hgb y3 y4 hbr
  go_wp2_with fail
  refine bodyPost_ret (v := .agg #[.slice p3 rn cp3]) (results_cell_row rfl _ _ w.heap.size 30 _ (0, 0) _ rfl HY.out Try.underlying30 rfl infoFil) rfl ⟨_, rfl, HBR.out, HBE.out⟩
end Go.Proofs.Ytjogjmkfkmbjdaa.BL
