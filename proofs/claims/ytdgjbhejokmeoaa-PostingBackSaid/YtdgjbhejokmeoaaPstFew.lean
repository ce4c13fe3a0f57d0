/-
  few, cut; Count. Condition: fewer than 10^9 bytes.
-/
import Derived.Test.YtdgjbhejokmeoaaPstDec
set_option linter.unusedVariables false
namespace Go.Proofs.Ytdgjbhejokmeoaa.PW
open Go.RowKit Go.Proofs.Ytdgjbhejokmeoaa.MM Go.Proofs.Ytdgjbhejokmeoaa.PM Go.Proofs.Ytdgjbhejokmeoaa.VM

def fewL (ps : List Post) : List Post := (ps.take 70).map fun p => (p.1, p.2.take 20)
theorem fewL_len (ps : List Post) : (fewL ps).length ≤ 70 := by simp [fewL]; omega
theorem fewL_next {ps : List Post} {k : Nat} (h1 : k < ps.length) (h2 : k < 70) : (fewL ps).take (k + 1) = (fewL ps).take k ++ [(ps[k].1, ps[k].2.take 20)] := by
  have hl : k < (fewL ps).length := by simp [fewL]; omega
  rw [List.take_succ_eq_append_getElem hl]
  simp [fewL]
theorem fewL_end {ps : List Post} {k : Nat} (h : ps.length ≤ k ∨ 70 ≤ k) : (fewL ps).take k = fewL ps := by
  apply List.take_of_length_le
  simp [fewL]
  omega
theorem fewL_each {ps : List Post} {p : Post} (h : p ∈ fewL ps) : p.2.length ≤ 20 := by
  obtain ⟨q, _, rfl⟩ := List.mem_map.1 h
  show (q.2.take 20).length ≤ 20
  rw [List.length_take]
  omega
theorem sumL_each : ∀ (ps : List Post), (∀ p ∈ ps, p.2.length ≤ 20) → sumL ps ≤ 20 * ps.length
  | [], _ => by simp [sumL]
  | p :: ps, h => by
    have h1 := h p (by simp)
    have h2 := sumL_each ps (fun q hq => h q (by simp [hq]))
    rw [sumL, List.length_cons]
    omega
theorem fewL_sum (ps : List Post) : sumL (fewL ps) ≤ 1400 := by
  have h1 := sumL_each (fewL ps) (fun p hp => fewL_each hp)
  have h2 := fewL_len ps
  omega
def FewLeft (ps : List Post) (w : World) (e : Ending) (w' : World) : Prop := ∃ v', e = .returned v' ∧ PRow w' v' ps ∧ Below w.heap.size w w'
set_option maxRecDepth 100000 in
set_option maxHeartbeats 2000000 in
theorem few_any (v : Value) (ps : List Post) (w : World) (hr : PRow w v ps) : Calls Try.prog 8 #[v] w (FewLeft (fewL ps) w) := by
  obtain ⟨p, cap, rfl, hlc, hcm, _⟩ := hr.shape
  unfold maxLen at hcm
  have HR := Lib.hid hr
  have HO0 : Hid (OwnP w.heap.size w (.slice none 0 0) ((fewL ps).take 0)) := Lib.hid (OwnP.nil_ _ _)
  clear hr
  go_enter Try.func8, Try.ntmps8
  go_wp2_with fail
  go_loopw [3, 4] (fun u i wr => ∃ k : Nat, k ≤ ps.length ∧ k ≤ 70 ∧ i = .int .i64 k ∧ Hid (OwnP w.heap.size wr u ((fewL ps).take k)) ∧ Hid (Below w.heap.size w wr)) (fun _ i _ => 70 - (intOf i).toNat)
  case atStart => exact ⟨0, by omega, by omega, rfl, HO0, Lib.hid (Below.refl _ _)⟩
  case round =>
    obtain ⟨k, hk, hk8, rfl, HO, HB⟩ := hrel
    clear HO0
    have hsz := HB.out.size
    by_cases hgo : k < ps.length ∧ k < 70
    · obtain ⟨hlt, h8⟩ := hgo
      have t1 : decide ((k : Int) < (ps.length : Int)) = true := by simp; omega
      have t2 : decide ((k : Int) < 70) = true := by simp; omega
      obtain ⟨b, off, x, rfl, hbl, _, hc1, hc2, hx⟩ := (PRow.pon HR.out).at_ hlt
      have hc1b := (HB.out.cell (p := ⟨b, off + k * 2, none⟩) hbl).trans hc1
      have hc2b := (HB.out.cell (p := ⟨b, off + k * 2 + 1, none⟩) hbl).trans hc2
      have hn := fewL_next hlt h8
      obtain ⟨⟨z, qs⟩, hz⟩ : ∃ z, ps[k] = z := ⟨_, rfl⟩
      rw [hz] at hc1b hx hn
      dsimp only at hc1b hx hn
      have HN := Lib.hid hn
      have hxw : IOn (fun c => c < w.heap.size) wr x qs := hx.keep ⟨HB.out.os, HB.out.tape, HB.out.output, HB.out.size, fun c _ hc => HB.out.block c hc⟩ fun _ _ h => h
      obtain ⟨px, cx, rfl, hx1, hx2, _⟩ := hxw.shape
      unfold maxLen at hx2
      have hll : ((fewL ps).take k).length ≤ 70 := by rw [List.length_take]; have := fewL_len ps; omega
      obtain ⟨nq, hnq⟩ : ∃ n, qs.length = n := ⟨_, rfl⟩
      have HXW := Lib.hid hxw
      rw [hnq] at HXW hc2b hx1
      have fin : ∀ (y : Value) (rs : List Int), IOn (fun c => c < w.heap.size) wr y rs → IOn (Apt w.heap.size (wr.alloc (.cells #[.int .i64 z, y] 47))) (wr.alloc (.cells #[.int .i64 z, y] 47)) y rs := fun y rs h => h.keep (kep_alloc _ _ _) (fun c _ hc => .inl hc)
      have HFIN := Lib.hid fin
      have HOA := Lib.hid (fun (o : Obj) => HO.out.alloc o)
      have HBA := Lib.hid (fun (o : Obj) => HB.out.alloc hsz o)
      have HSA := Lib.hid (fun (o : Obj) => (show (wr.alloc o).heap.size = wr.heap.size + 1 by simp))
      have hsa : ∀ o : Obj, w.heap.size ≤ (wr.alloc o).heap.size := fun o => by rw [HSA.out]; omega
      have HSB := Lib.hid hsa
      obtain ⟨pu, cu, rfl, hu1, hu2, _⟩ := HO.out.shape
      clear hx hxw hz hc1 hc2 hn fin hsa
      by_cases hbig : 20 < nq
      · have t3 : decide ((nq : Int) > 20) = true := by simp; omega
        have HY := Lib.hid (HFIN.out (.slice px 20 cx) (qs.take 20) (IOn.take HXW.out 20 (by omega)))
        have HOY := Lib.hid (HOA.out (.cells #[.int .i64 z, .slice px 20 cx] 47))
        have HBY := Lib.hid (HBA.out (.cells #[.int .i64 z, .slice px 20 cx] 47))
        have i1 : (20 : Int) ≤ (cx : Int) := by omega
        obtain ⟨nu, hnu⟩ : ∃ n, ((fewL ps).take k).length = n := ⟨_, rfl⟩
        rw [hnu] at HOY ⊢
        clear hnq
        go_wp2_with (at_builtin; go_loud (refine wpList_append_post rfl _ _ rfl w.heap.size _ ((fewL ps).take k) _ z _ (qs.take 20) rfl rfl HOY.out HY.out (congrArg (fun k => Value.slice (some ⟨k, 0, none⟩) 1 1) (HSA.out _).symm) (by rw [hnu]; omega) (HSB.out _) ?_))
        intro v7 w7 ho7 hb7 _
        rw [← HN.out] at ho7
        have HO7 := Lib.hid ho7
        have HB7 := Lib.hid (HBY.out.trans hb7)
        clear ho7 hb7
        go_wp2_with fail
        go_roundw
        case rel => exact ⟨k + 1, by omega, by omega, by go_num, HO7, HB7⟩
        case measure => simp [intOf]; omega
      · have t3 : decide ((nq : Int) > 20) = false := by simp; omega
        have e20 : qs.take 20 = qs := List.take_of_length_le (by omega)
        rw [e20] at HN
        have HY := Lib.hid (HFIN.out (.slice px nq cx) qs HXW.out)
        have HOY := Lib.hid (HOA.out (.cells #[.int .i64 z, .slice px nq cx] 47))
        have HBY := Lib.hid (HBA.out (.cells #[.int .i64 z, .slice px nq cx] 47))
        obtain ⟨nu, hnu⟩ : ∃ n, ((fewL ps).take k).length = n := ⟨_, rfl⟩
        rw [hnu] at HOY ⊢
        clear hnq e20
        go_wp2_with (at_builtin; go_loud (refine wpList_append_post rfl _ _ rfl w.heap.size _ ((fewL ps).take k) _ z _ qs rfl rfl HOY.out HY.out (congrArg (fun k => Value.slice (some ⟨k, 0, none⟩) 1 1) (HSA.out _).symm) (by rw [hnu]; omega) (HSB.out _) ?_))
        intro v7 w7 ho7 hb7 _
        rw [← HN.out] at ho7
        have HO7 := Lib.hid ho7
        have HB7 := Lib.hid (HBY.out.trans hb7)
        clear ho7 hb7
        go_wp2_with fail
        go_roundw
        case rel => exact ⟨k + 1, by omega, by omega, by go_num, HO7, HB7⟩
        case measure => simp [intOf]; omega
    · have he := fewL_end (ps := ps) (k := k) (by omega)
      rw [he] at HO
      have HP := Lib.hid HO.out.prow
      by_cases hlt : k < ps.length
      · have t1 : decide ((k : Int) < (ps.length : Int)) = true := by simp; omega
        have t2 : decide ((k : Int) < 70) = false := by simp; omega
        clear he HO
        go_wp2_with fail
        go_ret
        exact ⟨_, rfl, HP.out, HB.out⟩
      · have t1 : decide ((k : Int) < (ps.length : Int)) = false := by simp; omega
        clear he HO
        go_wp2_with fail
        go_ret
        exact ⟨_, rfl, HP.out, HB.out⟩
set_option maxRecDepth 100000 in
set_option maxHeartbeats 1000000 in
theorem cut_any (v : Value) (b : List UInt8) (w : World) (hr : BRow w v b) : Calls Try.prog 17 #[v] w fun e w' => ∃ v', e = .returned v' ∧ w = w' ∧ BRow w v' (b.take 600) := by
  have HR := Lib.hid hr
  obtain ⟨p, cap, rfl, hlc, hcm⟩ := BIn.shape hr
  unfold maxLen at hcm
  obtain ⟨nb, hnb⟩ : ∃ n, b.length = n := ⟨_, rfl⟩
  rw [hnb] at HR hlc ⊢
  clear hr
  by_cases h : 600 < nb
  · have t1 : decide ((nb : Int) > 600) = true := by simp; omega
    have i1 : (600 : Int) ≤ (cap : Int) := by omega
    have HT := Lib.hid (BIn.take HR.out 600 (by omega))
    clear hnb
    go_enter Try.func17, Try.ntmps17
    go_wp2_with fail
    go_ret
    exact ⟨_, rfl, rfl, HT.out⟩
  · have t1 : decide ((nb : Int) > 600) = false := by simp; omega
    have e : b.take 600 = b := List.take_of_length_le (by omega)
    rw [e]
    clear hnb e
    go_enter Try.func17, Try.ntmps17
    go_wp2_with fail
    go_ret
    exact ⟨_, rfl, rfl, HR.out⟩
set_option maxRecDepth 100000 in
set_option maxHeartbeats 1000000 in
theorem count_any (v : Value) (b : List UInt8) (w : World) (hr : BRow w v b) (hb : b.length ≤ 1000000000) : Calls Try.prog 22 #[v] w fun e w' => e = .returned (.tuple #[.int .i64 ((decR (decO b)).1.length : Int), .int .i64 (decR (decO b)).2]) ∧ Below w.heap.size w w' := by
  have HD := Lib.hid (decode_any v b w hr hb)
  obtain ⟨⟨ps, er⟩, hR⟩ : ∃ R, decR (decO b) = R := ⟨_, rfl⟩
  rw [hR] at HD ⊢
  unfold DecLeft at HD
  dsimp only at HD ⊢
  clear hr hR
  go_enter Try.func22, Try.ntmps22
  go_wp2_with fail
  refine HD.out.mono ?_
  rintro e w1 ⟨v1, rfl, hp1, hb1⟩
  have HB1 := Lib.hid hb1
  obtain ⟨p1, c1, rfl, _⟩ := hp1.shape
  clear hp1 hb1 HD
  go_wp2_with fail
  go_ret2
  exact ⟨rfl, HB1.out⟩
end Go.Proofs.Ytdgjbhejokmeoaa.PW
