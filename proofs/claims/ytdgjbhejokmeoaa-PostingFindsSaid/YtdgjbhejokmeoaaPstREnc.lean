/-
  The reference's block, Encode: a row's bytes. Condition: fewer than 100000 posts, fewer than 10^9 places.
-/
import Derived.Test.YtdgjbhejokmeoaaPstEnc
import Derived.Test.YtdgjbhejokmeoaaPstRef2
set_option linter.unusedVariables false
namespace Go.Proofs.Ytdgjbhejokmeoaa.PW
open Go.RowKit Go.Proofs.Ytdgjbhejokmeoaa.MM Go.Proofs.Ytdgjbhejokmeoaa.PM Go.Proofs.Ytdgjbhejokmeoaa.VM

theorem grown_low {B : Nat} {wr w' : World} {u u' : Value} {L L' : List UInt8} (hB : B ≤ wr.heap.size) (ho : OwnB B wr u L) (hg : Grown wr w' u u') (ho' : OwnB 0 w' u' L') : OwnB B w' u' L' ∧ Below B wr w' := by
  have h1 : ∀ k, u.ownBlock = some k → B ≤ k := fun k hk => (World.ownsRow.lt ho k hk).1
  refine ⟨OwnB.from ho' fun k hk => ?_, hg.kep.below hB fun k hk e => by have := h1 k e; omega⟩
  rcases hg.2 k hk with e | e
  · exact h1 k e
  · omega
theorem POn.sub {S : Nat → Prop} {w : World} {b off n cap : Nat} {ps : List Post} (h : POn S w (.slice (some ⟨b, off, none⟩) n cap) ps) {i j : Nat} (hij : i ≤ j) (hj : j ≤ n) : POn S w (.slice (some ⟨b, off + i * 2, none⟩) (j - i) (cap - i)) ((ps.drop i).take (j - i)) := by
  obtain ⟨p, c, xs, hv, h1, h2, h3, hm, h⟩ := h
  simp only [Value.slice.injEq] at hv
  obtain ⟨rfl, rfl, rfl⟩ := hv
  have e1 := hm.1
  refine ⟨_, _, (xs.drop i).take (j - i), by rw [List.length_take, List.length_drop]; congr 1; omega, by rw [List.length_take, List.length_drop]; omega, by omega, (fun hh => by cases hh), ⟨by rw [List.length_take, List.length_take, List.length_drop, List.length_drop, e1], fun k hk hk' => ?_⟩, ?_⟩
  · rw [List.length_take, List.length_drop] at hk hk'
    simp only [List.getElem_take, List.getElem_drop]
    exact hm.2 (i + k) (by omega) (by omega)
  · rcases h with h | ⟨b', off', hp, hlt, hS, hc⟩
    · subst h; left; simp
    · simp only [Option.some.injEq, Addr.mk.injEq] at hp
      obtain ⟨rfl, rfl, _⟩ := hp
      right
      refine ⟨b, off + i * 2, rfl, hlt, hS, fun k hk => ?_⟩
      rw [List.length_take, List.length_drop] at hk
      simp only [List.getElem_take, List.getElem_drop]
      have := hc (i + k) (by omega)
      rw [show off + i * 2 + k * 2 = off + (i + k) * 2 by omega]
      exact this

theorem body_takeN {n : Int} {ps : List Post} {k : Nat} (hk : k < ps.length) : bodyL n (ps.take (k + 1)) = bodyL n (ps.take k) ++ postL (nextL n (ps.take k)) ps[k] ∧ nextL n (ps.take (k + 1)) = ps[k].1 + 1 := by
  rw [List.take_succ_eq_append_getElem hk, bodyL_append, nextL_append]
  exact ⟨by rw [bodyL, bodyL, List.append_nil], rfl⟩
theorem ok_takeN {n : Int} {ps : List Post} (h : okL n ps) {k : Nat} (hk : k < ps.length) : n ≤ nextL n (ps.take k) ∧ okP (nextL n (ps.take k)) ps[k] := by
  refine ⟨(nextL_bound _ n (okL_take h k)).1, ?_⟩
  have := okL_drop h k
  rw [List.drop_eq_getElem_cons hk, okL] at this
  exact this.1

set_option maxRecDepth 100000 in
set_option maxHeartbeats 4000000 in
theorem rblock_any (v : Value) (ps : List Post) (a : Int) (w : World) (hr : PRow w v ps) (ha : -1 ≤ a) (hok : okL (a + 1) ps) (hl : ps.length ≤ 100000) (hs : sumL ps ≤ 1000000000) (ha2 : a ≤ 65536) : Calls Try.prog 38 #[v, .int .i64 a] w (PutLeft w.heap.size (bodyL (a + 1) ps) w) := by
  obtain ⟨p, cap, rfl, hlc, hcm, _⟩ := hr.shape
  unfold maxLen at hcm
  have HR := Lib.hid hr
  have HBT := Lib.hid (fun k (hk : k < ps.length) => body_takeN (n := a + 1) hk)
  have HOT := Lib.hid (fun k (hk : k < ps.length) => ok_takeN hok hk)
  have HSA := Lib.hid (fun k (hk : k < ps.length) => sumL_at ps k hk)
  have HBB := Lib.hid (fun k => show (bodyL (a + 1) (ps.take k)).length ≤ 20000000000 by
    have h1 := bodyL_len (ps.take k) (a + 1)
    have h2 := sumL_take ps k
    have h3 : (ps.take k).length ≤ ps.length := List.length_take_le' _ _
    omega)
  have HO0 : Hid (OwnB w.heap.size w (.slice none 0 0) (bodyL (a + 1) (ps.take 0))) := Lib.hid (World.ownsRow_nil _ _ _ _)
  have HA0 : Hid (nextL (a + 1) (ps.take 0) = a + 1) := Lib.hid rfl
  have HTL : Hid (bodyL (a + 1) (ps.take ps.length) = bodyL (a + 1) ps) := Lib.hid (by rw [List.take_length])
  clear hr hok
  go_enter Try.func38, Try.ntmps38
  go_wp2_with fail
  go_loopw [1, 5, 6] (fun av u iv wr => ∃ (i : Nat) (A : Int), i ≤ ps.length ∧ iv = .int .i64 i ∧ av = .int .i64 A ∧ Hid (nextL (a + 1) (ps.take i) = A + 1) ∧ Hid (OwnB w.heap.size wr u (bodyL (a + 1) (ps.take i))) ∧ Hid (Below w.heap.size w wr)) (fun _ _ iv _ => ps.length - (intOf iv).toNat)
  case atStart => exact ⟨0, a, by omega, rfl, rfl, HA0, HO0, Lib.hid (Below.refl _ _)⟩
  case round =>
    obtain ⟨i, A, hi, rfl, rfl, HA, HO, HB⟩ := hrel
    clear HA0 HO0
    by_cases hlt : i < ps.length
    · have t1 : decide ((i : Int) < (ps.length : Int)) = true := by simp; omega
      obtain ⟨b, off, x, rfl, hbl, _, hc1, hc2, hx⟩ := (PRow.pon HR.out).at_ hlt
      have hbt := HBT.out _ hlt
      have hot := HOT.out _ hlt
      have hsa := HSA.out _ hlt
      have hbb := HBB.out i
      rw [HA.out] at hbt hot
      obtain ⟨⟨z, qs⟩, hz⟩ : ∃ z, ps[i] = z := ⟨_, rfl⟩
      rw [hz] at hc1 hx hbt hot hsa
      dsimp only at hc1 hx hbt hot hsa
      have hsz := HB.out.size
      have hF : ∀ W, Below w.heap.size w W → W.cell? ⟨b, off + i * 2, none⟩ = some (.int .i64 z) ∧ W.cell? ⟨b, off + i * 2 + 1, none⟩ = some x := fun W hW => ⟨(hW.cell (p := ⟨b, off + i * 2, none⟩) hbl).trans hc1, (hW.cell (p := ⟨b, off + i * 2 + 1, none⟩) hbl).trans hc2⟩
      have hA1 : -1 ≤ A := by have := hot.1; omega
      obtain ⟨hz0, hz1, hz2, hz3⟩ := hot.2
      dsimp only at hz0 hz1 hz2 hz3
      have hql := riseL_len hz3
      have hGT := fun k (hk : k < qs.length) => gaps_take hk
      have hRT := fun k (hk : k < qs.length) => rise_take hz3 hk
      have hGB := fun k => (gapsL_len (qs.take k) 0).2
      have hK1 := rput_any u5 _ (z - A - 1) wr (by omega) (by omega) (OwnB.zero HO.out) (by omega)
      have hK2 : ∀ W u L, OwnB 0 W u L → L.length ≤ 1000000000000 → Calls Try.prog 37 #[u, .int .i64 qs.length] W (AppL (L ++ bytesL qs.length) u W) := fun W u L h hl => by
        have := rput_any u L (qs.length : Int) W (by omega) (by omega) h hl
        rw [Int.toNat_natCast] at this
        exact this
      have hpl : postL (A + 1) (z, qs) = bytesL (z - A - 1).toNat ++ (bytesL qs.length ++ gapsL 0 (qs.take qs.length)) := by
        rw [List.take_length]; unfold postL; dsimp only; rw [show z - (A + 1) = z - A - 1 by omega]
      rw [hpl] at hbt
      obtain ⟨px, cx, rfl, hx1, hx2, _⟩ := hx.shape
      unfold maxLen at hx2
      obtain ⟨P0, hP0⟩ : ∃ P, bodyL (a + 1) (ps.take i) = P := ⟨_, rfl⟩
      obtain ⟨P1, hP1⟩ : ∃ P, bytesL (z - A - 1).toNat = P := ⟨_, rfl⟩
      obtain ⟨P2, hP2⟩ : ∃ P, bytesL qs.length = P := ⟨_, rfl⟩
      have hb1 := bytesL_length (z - A - 1).toNat
      have hb2 := bytesL_length qs.length
      rw [hP0] at HO hK1 hbb hbt
      rw [hP1] at hK1 hb1 hbt
      simp only [hP2] at hK2
      rw [hP2] at hb2 hbt
      have HK1 := Lib.hid hK1
      have HK2 := Lib.hid hK2
      have HF := Lib.hid hF
      have HX := Lib.hid hx
      have HGT := Lib.hid hGT
      have HRT := Lib.hid hRT
      have HGB := Lib.hid hGB
      have HBTi := Lib.hid hbt.1
      have HNXi := Lib.hid hbt.2
      obtain ⟨f0, f1⟩ := hF wr HB.out
      obtain ⟨nq, hnq⟩ : ∃ nq, qs.length = nq := ⟨_, rfl⟩
      have HNQ := Lib.hid hnq
      rw [hnq] at f1 HK2 hx1 hql hsa
      simp only [hnq] at HF
      rw [hnq] at HX
      clear hbt hot hc1 hc2 hz hF hK1 hK2 hpl hP0 hP1 hP2 hGT hRT hGB hx hnq HA hz2 hz3
      go_wp2_with fail
      refine HK1.out.mono ?_
      rintro e w2 ⟨u2, rfl, ho2, hg2⟩
      obtain ⟨ho2b, hb2b⟩ := grown_low hsz HO.out hg2 ho2
      have HO2 := Lib.hid ho2b
      have HB2 := Lib.hid (HB.out.trans hb2b)
      have HKK := Lib.hid (HK2.out w2 u2 _ ho2 (by rw [List.length_append]; omega))
      obtain ⟨f2, f3⟩ := HF.out w2 HB2.out
      have hsz2 := HB2.out.size
      clear ho2 hg2 ho2b hb2b HK1 HK2
      go_wp2_with fail
      refine HKK.out.mono ?_
      rintro e w3 ⟨u3, rfl, ho3, hg3⟩
      obtain ⟨ho3b, hb3b⟩ := grown_low hsz2 HO2.out hg3 ho3
      have HB3 := Lib.hid (HB2.out.trans hb3b)
      have HO3 : Hid (OwnB w.heap.size w3 u3 (P0 ++ (P1 ++ (P2 ++ gapsL 0 (qs.take 0))))) := Lib.hid (by simp only [List.take_zero, gapsL, List.append_nil, ← List.append_assoc]; exact ho3b)
      have HL0 : Hid (lastP 0 (qs.take 0) = -1 + 1) := Lib.hid rfl
      clear ho3 hg3 ho3b hb3b HKK f0 f1 f2 f3
      go_wp2_with fail
      go_loopw [5, 7, 8] (fun u lv kv wr => ∃ (k : Nat) (L : Int), k ≤ nq ∧ kv = .int .i64 k ∧ lv = .int .i64 L ∧ Hid (lastP 0 (qs.take k) = L + 1) ∧ Hid (OwnB w.heap.size wr u (P0 ++ (P1 ++ (P2 ++ gapsL 0 (qs.take k))))) ∧ Hid (Below w.heap.size w wr)) (fun _ _ kv _ => nq - (intOf kv).toNat)
      case atStart => exact ⟨0, -1, by omega, rfl, rfl, HL0, HO3, HB3⟩
      case round =>
        obtain ⟨k, L, hk, rfl, rfl, HL, HOk, HBk⟩ := hrel
        clear HL0 HO3
        obtain ⟨f0, f1⟩ := HF.out wr HBk.out
        have hszk := HBk.out.size
        by_cases hkl : k < nq
        · have t2 : decide ((k : Int) < (nq : Int)) = true := by simp; omega
          have hkq : k < qs.length := by rw [HNQ.out]; exact hkl
          obtain ⟨b2, off2, rfl, hbl2, hS2, hcell⟩ := HX.out.at_ hkq
          obtain ⟨hgt, hgt2⟩ := HGT.out k hkq
          obtain ⟨hr0, hr1, hr2⟩ := HRT.out k hkq
          have hgb := HGB.out k
          have hll : (P0 ++ (P1 ++ (P2 ++ gapsL 0 (qs.take k)))).length ≤ 1000000000000 := by
            have : (qs.take k).length ≤ qs.length := List.length_take_le' _ _
            rw [HNQ.out] at this
            simp only [List.length_append]; omega
          rw [HL.out] at hgt hr0 hr1
          obtain ⟨y, hy⟩ : ∃ y, qs[k] = y := ⟨_, rfl⟩
          rw [hy] at hcell hgt hgt2 hr1 hr2
          have HC2 := Lib.hid (fun W (hW : Below w.heap.size w W) => (hW.cell (p := ⟨b2, off2 + k, none⟩) hbl2).trans hcell)
          have hcell2 := HC2.out wr HBk.out
          have HK := Lib.hid (rput_any _ _ (y - L - 1) wr (by omega) (by omega) (OwnB.zero HOk.out) hll)
          have e1 : P0 ++ (P1 ++ (P2 ++ gapsL 0 (qs.take k))) ++ bytesL (y - L - 1).toNat = P0 ++ (P1 ++ (P2 ++ gapsL 0 (qs.take (k + 1)))) := by
            rw [hgt, show y - (L + 1) = y - L - 1 by omega]; simp only [List.append_assoc]
          rw [e1] at HK
          have HP2 := Lib.hid hgt2
          clear hgt hgt2 hgb hll e1 hy HL hcell
          go_wp2_with fail
          refine HK.out.mono ?_
          rintro e w4 ⟨u4, rfl, ho4, hg4⟩
          obtain ⟨ho4b, hb4b⟩ := grown_low hszk HOk.out hg4 ho4
          have HO4 := Lib.hid ho4b
          have HB4 := Lib.hid (HBk.out.trans hb4b)
          clear f0 f1 hcell2 ho4 hg4 ho4b hb4b HK
          obtain ⟨f0, f1⟩ := HF.out w4 HB4.out
          have hcell2 := HC2.out w4 HB4.out
          go_wp2_with fail
          go_roundw
          case rel => exact ⟨k + 1, y, by omega, by go_num, rfl, HP2, HO4, HB4⟩
          case measure => simp [intOf]; omega
        · obtain rfl : k = nq := by omega
          have t2 : decide ((k : Int) < (k : Int)) = false := by simp
          have ho := HOk.out
          rw [← HNQ.out, ← HBTi.out] at ho
          have HOe := Lib.hid ho
          have HNe : Hid (nextL (a + 1) (ps.take (i + 1)) = z + 1) := Lib.hid HNXi.out
          clear HL ho HOk
          go_wp2_with fail
          go_roundw
          case rel => exact ⟨i + 1, z, by omega, by go_num, rfl, HNe, HOe, HBk⟩
          case measure => simp [intOf]; omega
    · obtain rfl : i = ps.length := by omega
      have t1 : decide ((ps.length : Int) < (ps.length : Int)) = false := by simp
      have ho := HO.out
      rw [HTL.out] at ho
      have HOe := Lib.hid ho
      clear HA ho HO
      go_wp2_with fail
      go_ret
      exact ⟨_, rfl, HOe.out, HB.out⟩

theorem EncSt.forget {w W wr : World} {gb : Option Nat} {vh vb : Value} {H Bd : List UInt8} (h : EncSt w W wr gb vh vb H Bd) : EncSt w w wr none vh vb H Bd :=
  ⟨h.low, h.low.size, Nat.le_refl _, (fun g hg => by cases hg), h.oh, h.ob, fun k hk => ⟨(h.fh k hk).1, by simp⟩, fun k hk => ⟨(h.fb k hk).1, by simp⟩, h.ap⟩
theorem EncSt.row {w wr : World} {vh vb x : Value} {H Bd X : List UInt8} (h : EncSt w w wr none vh vb H Bd) {w5 : World} (hb : Below wr.heap.size wr w5) (hx : OwnB wr.heap.size w5 x X) : EncSt w w5 w5 x.ownBlock vh vb H Bd :=
  ⟨h.low.trans (hb.mono h.low.size), Nat.le_refl _, Nat.le_trans h.low.size hb.size, fun g hg => ⟨(World.ownsRow.lt hx g hg).2, rfl⟩, OwnB.keep h.oh hb, OwnB.keep h.ob hb,
    fun k hk => ⟨(h.fh k hk).1, fun e => by have h1 := (World.ownsRow.lt hx k e).1; have h2 := own_lt h.oh k hk; omega⟩,
    fun k hk => ⟨(h.fb k hk).1, fun e => by have h1 := (World.ownsRow.lt hx k e).1; have h2 := own_lt h.ob k hk; omega⟩, h.ap⟩
theorem own_of_block {B : Nat} {w w' : World} {v : Value} {l : List UInt8} (h : OwnB B w v l) (hk : ∀ g, v.ownBlock = some g → w'.heap[g]? = w.heap[g]?) : OwnB B w' v l := by
  refine ⟨h.1, ?_⟩
  rcases h.2 with h0 | ⟨g, cap, cur, hv, hg, hh, rest⟩
  · exact .inl h0
  · exact .inr ⟨g, cap, cur, hv, hg, by rw [hk g (by rw [hv]; rfl)]; exact hh, rest⟩
theorem body_block (ps : List Post) (i M : Nat) (hM : ps.take M = ps.take (32 * (i + 1))) (h1 : 32 * i ≤ M) : bodyL 0 (ps.take (32 * (i + 1))) = bodyL 0 (ps.take (32 * i)) ++ bodyL (nextL 0 (ps.take (32 * i))) ((ps.drop (32 * i)).take (M - 32 * i)) := by
  rw [← bodyL_append, ← hM, ← List.take_add, show 32 * i + (M - 32 * i) = M by omega]
theorem ok_block {ps : List Post} (h : okL 0 ps) (i k : Nat) : okL (nextL 0 (ps.take i)) ((ps.drop i).take k) := okL_take (okL_drop h i) k
theorem sumL_append : ∀ (a b : List Post), sumL (a ++ b) = sumL a + sumL b
  | [], b => by simp [sumL]
  | p :: a, b => by rw [List.cons_append, sumL, sumL, sumL_append a b]; omega
theorem sumL_drop (ps : List Post) (i : Nat) : sumL (ps.drop i) ≤ sumL ps := by
  have := sumL_append (ps.take i) (ps.drop i)
  rw [List.take_append_drop] at this
  omega

set_option maxRecDepth 100000 in
set_option maxHeartbeats 4000000 in
theorem renc_any (v : Value) (ps : List Post) (w : World) (hr : PRow w v ps) (hl : ps.length ≤ 100000) (hs : sumL ps ≤ 1000000000) : Calls Try.prog 19 #[v] w (EncLeft (encR ps) w) := by
  have HCk := Lib.hid (is_any v ps w hr)
  unfold encR
  cases hok : isL ps with
  | true =>
    rw [hok] at HCk
    rw [if_pos rfl]
    have hokL := (isL_ok ps).1 hok
    have HRS := Lib.hid hr
    have HE1 := Lib.hid (fun k => show endL ps k ≤ 20000000000 by have := endL_le ps k; omega)
    have HBB := Lib.hid (fun k => show (bodyL 0 (ps.take k)).length ≤ 20000000000 by
      have h1 := bodyL_len (ps.take k) 0
      have h2 := sumL_take ps k
      have h3 : (ps.take k).length ≤ ps.length := List.length_take_le' _ _
      omega)
    have HNB := Lib.hid (fun k => nextL_bound (ps.take k) 0 (okL_take hokL k))
    have HOB := Lib.hid (fun i k => ok_block hokL i k)
    have HBT := Lib.hid (fun k (hk : k < ps.length) => (body_takeN (n := 0) hk).2)
    obtain ⟨p, cap, rfl, hlc, hcm, _⟩ := hr.shape
    have HK1 := Lib.hid (fun W => by
      have := rput_any (.slice none 0 0) [] (ps.length : Int) W (by omega) (by omega) (World.ownsRow_nil _ _ _ _) (by simp)
      rw [Int.toNat_natCast, List.nil_append] at this
      exact this)
    unfold maxLen at hcm
    obtain ⟨n, hnn⟩ : ∃ n, ps.length = n := ⟨_, rfl⟩
    have HNN := Lib.hid hnn
    rw [hnn] at HCk HRS HK1 hl hlc ⊢
    clear hr hnn hok hokL
    go_enter Try.func19, Try.ntmps19
    go_wp2_with fail
    refine HCk.out.mono ?_
    rintro e w1 ⟨rfl, hb1⟩
    have HB1 := Lib.hid hb1
    clear hb1 HCk
    go_wp2_with fail
    refine (HK1.out _).mono ?_
    rintro e w2 ⟨vh, rfl, ho2, hg2⟩
    have hst : EncSt w w w2 none vh (.slice none 0 0) (bytesL n ++ headsR ps 0 0) (bodyL 0 (ps.take (32 * 0))) := by
      have hb2 : Below w1.heap.size w1 w2 := hg2.kep.below (Nat.le_refl _) (fun k hk e => by cases e)
      refine ⟨HB1.out.trans (hb2.mono HB1.out.size), Nat.le_trans HB1.out.size hb2.size, Nat.le_refl _, (fun g hg => by cases hg), ?_, World.ownsRow_nil _ _ _ _, fun k hk => ?_, (fun k hk => by cases hk), (fun k hk hk2 => by cases hk2)⟩
      · rw [headsR, List.append_nil]; exact ho2
      · refine ⟨?_, by simp⟩
        rcases hg2.2 k hk with e | e
        · cases e
        · exact Nat.le_trans HB1.out.size e
    have HST0 := Lib.hid hst
    have HA0 : Hid (nextL 0 (ps.take (32 * 0)) = -1 + 1) := Lib.hid (by rw [Nat.mul_zero, List.take_zero]; rfl)
    clear hst ho2 hg2 HK1
    go_wp2_with fail
    go_loopw [4, 5, 6, 7] (fun vh vb a iv wr => ∃ (i I : Nat) (A : Int), Hid (I = 32 * i) ∧ I ≤ 32 * cnt n ∧ iv = .int .i64 I ∧ a = .int .i64 A ∧ Hid (nextL 0 (ps.take (32 * i)) = A + 1) ∧ Hid (EncSt w w wr none vh vb (bytesL n ++ headsR ps 0 i) (bodyL 0 (ps.take (32 * i))))) (fun _ _ _ iv _ => 32 * cnt n + 1 - (intOf iv).toNat)
    case atStart => exact ⟨0, 0, -1, Lib.hid rfl, by omega, rfl, rfl, HA0, HST0⟩
    case round =>
      obtain ⟨i, I, A, HI, hi, rfl, rfl, HA, HST⟩ := hrel
      clear HA0 HST0
      by_cases hlt : I < n
      · have t1 : decide ((I : Int) < (n : Int)) = true := by simp; omega
        obtain ⟨M, hM⟩ : ∃ M, min n (I + 32) = M := ⟨_, rfl⟩
        have hMn : M ≤ n := by omega
        obtain ⟨m, hm⟩ : ∃ m, M - I = m + 1 := ⟨M - I - 1, by omega⟩
        have hMI : I < M := by omega
        have etk : ps.take M = ps.take (32 * (i + 1)) := by
          have h1 := HI.out
          have h2 := HNN.out
          by_cases h32 : n ≤ I + 32
          · rw [List.take_of_length_le (by omega), List.take_of_length_le (by omega)]
          · rw [show M = 32 * (i + 1) by omega]
        obtain ⟨b, off, x0, rfl, hbl, _, _, _, _⟩ := (PRow.pon HRS.out).at_ (show I < ps.length by rw [HNN.out]; exact hlt)
        have hlow := HST.out.low
        have hsub := POn.sub (HRS.out.below hlow) (Nat.le_of_lt hMI) hMn
        have hkq : M - 1 < ps.length := by rw [HNN.out]; omega
        obtain ⟨b', off', x, hbb, _, _, hc1, _, hx9⟩ := (PRow.pon HRS.out).at_ hkq
        simp only [Option.some.injEq, Addr.mk.injEq] at hbb
        obtain ⟨rfl, rfl, _⟩ := hbb
        have hbt := HBT.out _ hkq
        rw [show M - 1 + 1 = M by omega, etk] at hbt
        have hnb := HNB.out (32 * i)
        have hnb2 := HNB.out (32 * (i + 1))
        have hob := HOB.out (32 * i) (M - 32 * i)
        rw [HA.out] at hob hnb
        have hsd : ((ps.drop I).take (M - I)).length = M - I := by rw [List.length_take, List.length_drop, HNN.out]; omega
        have hss : sumL ((ps.drop I).take (M - I)) ≤ 1000000000 := by
          have h1 := sumL_take (ps.drop I) (M - I)
          have h2 := sumL_drop ps I
          omega
        have hblk := rblock_any _ ((ps.drop I).take (M - I)) A wr hsub (by omega) (by rw [HI.out]; exact hob) (by omega) hss (by omega)
        have hbody := body_block ps i M etk (by rw [← HI.out]; omega)
        rw [HA.out, ← HI.out] at hbody
        obtain ⟨X, hX⟩ : ∃ X, bodyL (A + 1) ((ps.drop I).take (M - I)) = X := ⟨_, rfl⟩
        rw [hX] at hblk hbody
        have hXne : X ≠ [] := by
          intro e
          have := bodyL_least ((ps.drop I).take (M - I)) (A + 1) (by rw [HI.out]; exact hob)
          rw [hX, e, hsd] at this
          simp at this
          omega
        have hends : endL ps (i + 1) = endL ps i + X.length := by
          unfold endL
          rw [hbody, List.length_append, HI.out]
        obtain ⟨z, hz⟩ : ∃ z, ps[M - 1].1 = z := ⟨_, rfl⟩
        rw [hz] at hbt hc1
        rw [hbt] at hnb2
        have hh1 : h1L ps i = z.toNat := by unfold h1L; rw [hbt]; congr 1; omega
        have hh2 : h2L ps i = X.length := by unfold h2L; omega
        have hee := HE1.out (i + 1)
        have hz0 : 0 ≤ z := by
          have h3 : (ps.take (32 * (i + 1))).length ≥ 1 := by rw [← etk, List.length_take, HNN.out]; omega
          omega
        have hbnn := bytesL_length n
        have hhl := headsR_len ps i 0
        have hci : i ≤ n := by have := HI.out; omega
        have hbb2 := HBB.out (32 * i)
        have hK1 : ∀ W, OwnB 0 W u4 (bytesL n ++ headsR ps 0 i) → Calls Try.prog _ #[u4, .int .i64 z] W _ := fun W h => rput_any u4 _ z W hz0 (by omega) h (by rw [List.length_append]; omega)
        have hK2 : ∀ W u, OwnB 0 W u (bytesL n ++ headsR ps 0 i ++ bytesL z.toNat) → Calls Try.prog _ #[u, .int .i64 (X.length : Int)] W _ := fun W u h => rput_any u _ (X.length : Int) W (by omega) (by omega) h (by have := bytesL_length z.toNat; simp only [List.length_append]; omega)
        have e3 : bytesL n ++ headsR ps 0 i ++ bytesL z.toNat ++ bytesL (X.length : Int).toNat = bytesL n ++ headsR ps 0 (i + 1) := by
          rw [headsR_snoc, Nat.zero_add, headL, hh1, hh2, Int.toNat_natCast]
          simp only [List.append_assoc]
        rw [e3] at hK2
        have HK1 := Lib.hid hK1
        have HK2 := Lib.hid hK2
        have HBLK := Lib.hid hblk
        have HBT2 := Lib.hid hbt
        have HXNE := Lib.hid hXne
        have HBODY := Lib.hid hbody
        have hlenX : (bodyL 0 (ps.take (32 * i))).length + X.length ≤ 140737488355328 := by omega
        have hcl := fun W (hW : Below w.heap.size w W) => (hW.cell (p := ⟨b, off + (M - 1) * 2, none⟩) hbl).trans hc1
        rw [show off + (M - 1) * 2 = off + I * 2 + m * 2 by omega] at hcl
        have HCL := Lib.hid hcl
        have hmin : (if (n : Int) < (I : Int) + 32 then (n : Int) else (I : Int) + 32) = (M : Int) := by split <;> omega
        have hmin2 : (if (I : Int) + 32 < (n : Int) then (I : Int) + 32 else (n : Int)) = (M : Int) := by split <;> omega
        have hmin3 : min (n : Int) ((I : Int) + 32) = (M : Int) := by omega
        have i1 : (I : Int) ≤ (M : Int) := by omega
        have i2 : (M : Int) ≤ (cap : Int) := by omega
        have hcapI : ¬ cap = I := by omega
        have i4 : ((M - I : Nat) : Int) - 1 = (m : Int) := by omega
        have i5 : m < M - I := by omega
        have HMM := Lib.hid hm
        have HEK := Lib.hid etk
        have HNI : Hid (I + 32 ≤ 32 * cnt n ∧ I + 32 = 32 * (i + 1)) := Lib.hid (by have := HI.out; unfold cnt; omega)
        have hIb : I ≤ 200000 := by omega
        clear hsub hob hnb hnb2 hbt hblk hbody hX hXne hends hh1 hh2 hee hbnn hhl hbb2 hK1 hK2 e3 hc1 hsd hss hx9 hkq hlow hcl hz etk hM hm
        go_wp2_with fail
        refine HBLK.out.mono ?_
        rintro e w5 ⟨vx, rfl, hox, hbx⟩
        have hst5 := HST.out.row hbx hox
        have hcell := HCL.out w5 hst5.low
        have HST5 := Lib.hid hst5
        have HOX := Lib.hid hox
        clear hst5 hox hbx HBLK HST
        obtain ⟨px, cx, rfl, hx1, hx2⟩ := (OwnB.brow HOX.out).shape
        go_wp2_with fail
        refine (HK1.out _ HST5.out.oh).mono ?_
        rintro e w6 ⟨v6, rfl, ho6, hg6⟩
        have HST6 := Lib.hid (HST5.out.growH hg6 ho6)
        clear ho6 hg6 HST5
        go_wp2_with fail
        refine (HK2.out _ _ HST6.out.oh).mono ?_
        rintro e w7 ⟨v7, rfl, ho7, hg7⟩
        have HST7 := Lib.hid (HST6.out.growH hg7 ho7)
        clear ho7 hg7 HST6
        have HOX7 := Lib.hid (own_of_block HOX.out (fun g hg => (HST7.out.blk g hg).2))
        have HRX := Lib.hid (OwnB.brow HOX7.out)
        have HOB7 := Lib.hid HST7.out.ob
        go_wp2_with (at_builtin; refine wpList_append_grown rfl _ _ rfl _ (bodyL 0 (ps.take (32 * i))) rfl HOB7.out _ X rfl HRX.out HXNE.out hlenX ?_)
        intro v8 w8 ho8 hg8
        have hst8 := (HST7.out.growB hg8 ho8).forget
        rw [← HI.out, ← HBODY.out] at hst8
        have HST8 := Lib.hid hst8
        clear ho8 hg8 hst8 HST7
        go_wp2_with fail
        go_roundw
        case rel => exact ⟨i + 1, I + 32, z, Lib.hid HNI.out.2, HNI.out.1, by go_num, rfl, HBT2, HST8⟩
        case measure => simp [intOf]; omega
      · have t1 : decide ((I : Int) < (n : Int)) = false := by simp; omega
        have etk : ps.take (32 * i) = ps := List.take_of_length_le (by rw [HNN.out, ← HI.out]; omega)
        have ehr : i = cnt n := by have := HI.out; unfold cnt at hi ⊢; omega
        rw [etk, ehr] at HST
        have hst := HST.out
        have hbb := HBB.out ps.length
        rw [List.take_length] at hbb
        have hhl := headsR_len ps (cnt n) 0
        have hbn := bytesL_length n
        have hcn : cnt n ≤ n := by unfold cnt; omega
        have HOH := Lib.hid (OwnB.from hst.oh (fun k hk => (hst.fh k hk).1))
        have HOB := Lib.hid (OwnB.brow hst.ob)
        have HLOW := Lib.hid hst.low
        have hlen : (bytesL n ++ headsR ps 0 (cnt n)).length + (bodyL 0 ps).length ≤ 140737488355328 := by rw [List.length_append]; omega
        have hsz := hst.low.size
        have HEE : Hid (encL ps = bytesL n ++ (headsR ps 0 (cnt n) ++ bodyL 0 ps)) := Lib.hid (by unfold encL; rw [HNN.out, List.append_assoc])
        clear hst hbb hhl hbn HST etk HA ehr
        go_wp2_with (at_builtin; refine wpList_append_bytes rfl _ _ rfl w.heap.size _ (bytesL n ++ headsR ps 0 (cnt n)) rfl HOH.out _ (bodyL 0 ps) rfl HOB.out hlen hsz ?_)
        intro v8 w8 ho8 hb8
        rw [← HEE.out] at ho8
        have HO8 := Lib.hid ho8
        have HB8 := Lib.hid (HLOW.out.trans hb8)
        clear ho8 hb8
        go_wp2_with fail
        go_ret2
        exact ⟨_, rfl, HO8.out, HB8.out⟩
  | false =>
    rw [hok] at HCk
    rw [if_neg (by simp)]
    clear hok hr
    go_enter Try.func19, Try.ntmps19
    go_wp2_with fail
    refine HCk.out.mono ?_
    rintro e w1 ⟨rfl, hb1⟩
    have HB1 := Lib.hid hb1
    clear hb1 HCk
    go_wp2_with fail
    go_ret2
    exact ⟨_, rfl, World.ownsRow_nil _ _ _ _, HB1.out⟩
end Go.Proofs.Ytdgjbhejokmeoaa.PW
