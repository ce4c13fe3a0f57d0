/-
  The code's orders: next; and Unpack: what the plain lists say. No condition.
-/
import Derived.Test.YtoohkhcmakcggaaLzOrd2
set_option linter.unusedVariables false
namespace Go.Proofs.Ytoohkhcmakcggaa.LZ
open Go.RowKit Go.Proofs.Ytoohkhcmakcggaa.MM

/-- What the first order makes of what is left and of what is made; none: it may not be. -/
def nextS (c : UInt8) (l X : List UInt8) : Option (List UInt8 × List UInt8) :=
  if c.toNat < 128 then (if l.length < c.toNat + 1 then none else some (l.drop (c.toNat + 1), X ++ l.take (c.toNat + 1))) else matS (c.toNat - 124) l X
theorem unF_next {n k : Nat} {c : UInt8} {l X : List UInt8} (hX : X.length ≤ n) : unF n (k + 1) (c :: l) X = match nextS c l X with | none => none | some (l', X') => if n < X'.length then none else unF n k l' X' := by
  unfold nextS
  by_cases hc : c.toNat < 128
  · rw [unF_run_ hc, if_pos hc]
    by_cases hl : l.length < c.toNat + 1
    · rw [if_pos (.inl hl), if_pos hl]
    · rw [if_neg hl]
      simp only [List.length_append, List.length_take]
      by_cases h2 : n - X.length < c.toNat + 1
      · rw [if_pos (.inr h2), if_pos (by omega)]
      · rw [if_neg (by omega), if_neg (by omega)]
  · rw [unF_mat_ hc, if_neg hc]
    match l with
    | [] => rfl
    | [_] => rfl
    | h :: m :: l' =>
      unfold matF matS
      dsimp only
      by_cases h1 : 256 * h.toNat + m.toNat = 0 ∨ X.length < 256 * h.toNat + m.toNat
      · rw [if_pos (by omega), if_pos h1]
      · rw [if_neg h1]
        dsimp only
        rw [copyL_len]
        by_cases h2 : n - X.length < c.toNat - 124
        · rw [if_pos (by omega), if_pos (by omega)]
        · rw [if_neg (by omega), if_neg (by omega)]
theorem nextS_len {c : UInt8} {l X l' X' : List UInt8} (h : nextS c l X = some (l', X')) : l'.length ≤ l.length ∧ X'.length ≤ X.length + 131 := by
  have hc9 := c.toNat_lt
  unfold nextS at h
  split at h
  · split at h
    · cases h
    · simp only [Option.some.injEq, Prod.mk.injEq] at h
      obtain ⟨rfl, rfl⟩ := h
      rw [List.length_drop, List.length_append, List.length_take]
      omega
  · match l, h with
    | x :: y :: l2, h =>
      unfold matS at h
      dsimp only at h
      split at h
      · cases h
      · simp only [Option.some.injEq, Prod.mk.injEq] at h
        obtain ⟨rfl, rfl⟩ := h
        rw [copyL_len]
        simp
        omega
    | [], h => cases h
    | [_], h => cases h

set_option maxRecDepth 100000 in
set_option maxHeartbeats 1000000 in
theorem next_any (B g : Nat) (c : UInt8) (l X : List UInt8) (w : World) (h : OrdSt B g w (c :: l) X) (hX : X.length ≤ 1000000000000) (hl : l.length ≤ 1000000000000) :
    Calls Try.prog 24 #[.pointer (some ⟨g, 0, none⟩)] w (StepLeft B g (nextS c l X) w) := by
  have HT := Lib.hid (take_yes B g 1 (c :: l) X w h (by simp))
  have htk : (c :: l).take 1 = [c] := rfl
  have hdr : (c :: l).drop 1 = l := rfl
  rw [htk, hdr] at HT
  obtain ⟨R, hR⟩ : ∃ R, nextS c l X = R := ⟨_, rfl⟩
  have HR : Hid ((if c.toNat < 128 then (if l.length < c.toNat + 1 then none else some (l.drop (c.toNat + 1), X ++ l.take (c.toNat + 1))) else matS (c.toNat - 124) l X) = R) := Lib.hid hR
  rw [hR]
  have hc9 := c.toNat_lt
  have HC := Lib.hid (fun p cap W (hb : BIn B W (.slice p 1 cap) [c]) => hb.at_ (k := 0) (by simp))
  simp only [List.getElem_cons_zero] at HC
  have HNO := Lib.hid (fun n W (h : OrdSt B g W l X) (hn : l.length < n) => run_no B g n l X W h hn hX)
  have HYES := Lib.hid (fun n W (h : OrdSt B g W l X) (hn : n ≤ l.length) => run_yes B g n l X W h hn hX hl)
  have HMAT := Lib.hid (fun n W (h : OrdSt B g W l X) (hn : n ≤ 200) => mat_any B g n l X W h hn hX)
  generalize c.toNat = m at *
  clear h hR htk hdr
  go_enter Try.func24, Try.ntmps24
  go_wp2_with fail
  refine HT.out.mono ?_
  rintro e w1 ⟨v, rfl, hv, hs, hb1⟩
  obtain ⟨pa, capa, rfl, hc2, _⟩ := hv.shape
  obtain ⟨blk, off, rfl, hbl, c1⟩ := HC.out pa capa w1 hv
  rw [Nat.add_zero] at c1
  have HS := Lib.hid hs
  have HB := Lib.hid hb1
  clear hv hs hb1 HC HT
  by_cases h128 : m < 128
  · have t1 : decide ((m : Int) < 128) = true := by simp; omega
    have hr := HR.out
    rw [if_pos h128] at hr
    by_cases hlen : l.length < m + 1
    · rw [if_pos hlen] at hr
      subst hr
      have hk := HNO.out (m + 1) w1 HS.out hlen
      rw [show ((m + 1 : Nat) : Int) = (m : Int) + 1 by omega] at hk
      have HK := Lib.hid hk
      clear hk HR hlen HNO HYES HMAT
      go_wp2_with fail
      refine HK.out.mono ?_
      rintro e w2 ⟨rfl, hb2⟩
      go_wp2_with fail
      go_ret
      exact ⟨rfl, HB.out.trans hb2⟩
    · rw [if_neg hlen] at hr
      subst hr
      have hk := HYES.out (m + 1) w1 HS.out (by omega)
      rw [show ((m + 1 : Nat) : Int) = (m : Int) + 1 by omega] at hk
      have HK := Lib.hid hk
      clear hk HR hlen HNO HYES HMAT
      go_wp2_with fail
      refine HK.out.mono ?_
      rintro e w2 ⟨rfl, hs2, hb2⟩
      have HS2 := Lib.hid hs2
      clear hs2
      go_wp2_with fail
      go_ret
      exact ⟨rfl, HS2.out, HB.out.trans hb2⟩
  · have t1 : decide ((m : Int) < 128) = false := by simp; omega
    have hr := HR.out
    rw [if_neg h128] at hr
    have hk := HMAT.out (m - 124) w1 HS.out (by omega)
    rw [hr] at hk
    rw [show ((m - 124 : Nat) : Int) = (m : Int) - 128 + 4 by omega] at hk
    have HK := Lib.hid hk
    have i1 : (128 : Int) ≤ (m : Int) := by omega
    clear hk hr HR HNO HYES HMAT
    go_wp2_with fail
    refine HK.out.mono ?_
    intro e w2 hst
    have HST := Lib.hid hst
    clear hst
    cases R with
    | none =>
      obtain ⟨rfl, hb2⟩ := HST.out
      go_wp2_with fail
      go_ret
      exact ⟨rfl, HB.out.trans hb2⟩
    | some r =>
      obtain ⟨l2, X2⟩ := r
      obtain ⟨rfl, hs2, hb2⟩ := HST.out
      have HS2 := Lib.hid hs2
      clear hs2 HST
      go_wp2_with fail
      go_ret
      exact ⟨rfl, HS2.out, HB.out.trans hb2⟩
/-! ### Unpack -/
def lenAt (w : World) (g : Nat) : Nat := match w.cell? ⟨g, 0, none⟩ with | some (.slice _ n _) => n | _ => 0
set_option maxRecDepth 100000 in
set_option maxHeartbeats 4000000 in
theorem unpack_any (v : Value) (b : List UInt8) (w : World) (hr : BRow w v b) (hbl : b.length ≤ 1000000000000) : Calls Try.prog 13 #[v] w (TwoLeft w.heap.size (unpackL b) w) := by
  obtain ⟨p, cap, rfl, hlc, hcm⟩ := hr.shape
  unfold maxLen at hcm
  have HSZ := Lib.hid (size_any _ b w hr)
  by_cases he : (lzSize b).2 = 0
  · have hu : unpackL b = answer (unF (lzSize b).1 b.length (b.drop 4) []) := by unfold unpackL; rw [if_pos he]; rfl
    have h4 : 4 ≤ b.length := by
      unfold lzSize at he
      split at he
      · simp at he
      · omega
    have hn : (lzSize b).1 ≤ 16777216 := by
      unfold lzSize
      split
      · simp
      · split
        · simp
        · simp; omega
    rw [he] at HSZ
    generalize (lzSize b).1 = n at *
    obtain ⟨RES, hRES⟩ : ∃ RES, unF n b.length (b.drop 4) [] = RES := ⟨_, rfl⟩
    rw [hRES] at hu
    rw [hu]
    obtain ⟨blk, off, rfl, hblk, _⟩ := BIn.at_ (k := 0) (show BIn w.heap.size w (.slice p b.length cap) b from hr) (by omega)
    have hD := BIn.drop2 (show BIn w.heap.size w (.slice (some ⟨blk, off, none⟩) b.length cap) b from hr) 4 h4
    have hdl : (b.drop 4).length = b.length - 4 := List.length_drop
    generalize b.drop 4 = l0 at *
    have H0 : Hid (unF n b.length l0 [] = RES) := Lib.hid hRES
    obtain ⟨ANS, hANS⟩ : ∃ A, answer RES = A := ⟨_, rfl⟩
    rw [hANS]
    have HANS := Lib.hid hANS
    have HD := Lib.hid hD
    have HDL := Lib.hid hdl
    have i0 : (4 : Int) ≤ (b.length : Int) := by omega
    have i1 : (4 : Int) ≤ (cap : Int) := by omega
    clear hr hu he hRES hANS hD hdl
    go_enter Try.func13, Try.ntmps13
    go_wp2_with fail
    refine HSZ.out.mono ?_
    rintro e w1 ⟨rfl, hb1⟩
    have HB1 := Lib.hid hb1
    have hsz1 := hb1.size
    have HST := Lib.hid (fun u vm W (hu : BIn w.heap.size w1 u l0) (hW : Below (w1.heap.size + 1) (w1.alloc (.cells #[u, .slice none 0 0] 51)) W) (hm : OwnB (w1.heap.size + 1) W vm []) =>
      show OrdSt w.heap.size w1.heap.size (W.setCell ⟨w1.heap.size, 1, none⟩ vm) l0 [] from
      ⟨hsz1, u, vm, (OrdAt.below (show OrdAt (w1.alloc (.cells #[u, .slice none 0 0] 51)) w1.heap.size u (.slice none 0 0) from heap_alloc_new _ _) hW (Nat.lt_succ_self _)).set1 vm,
        ((hu.below ((Below.refl _ _).alloc hsz1 _)).below (hW.mono (by omega))).below (below_set hsz1 vm), own_set hm (Nat.lt_succ_self _)⟩)
    have HAT := Lib.hid (fun u W (hW : Below (w1.heap.size + 1) (w1.alloc (.cells #[u, .slice none 0 0] 51)) W) =>
      OrdAt.below (show OrdAt (w1.alloc (.cells #[u, .slice none 0 0] 51)) w1.heap.size u (.slice none 0 0) from heap_alloc_new _ _) hW (Nat.lt_succ_self _))
    have HBW := Lib.hid (fun u vm W (hW : Below (w1.heap.size + 1) (w1.alloc (.cells #[u, .slice none 0 0] 51)) W) =>
      show Below w.heap.size w (W.setCell ⟨w1.heap.size, 1, none⟩ vm) from (((HB1.out.alloc hsz1 _).trans (hW.mono (by omega))).trans (below_set hsz1 vm)))
    have hbase : ∀ o, w1.heap.size + 1 ≤ (w1.alloc o).heap.size := fun o => by simp
    obtain ⟨M, hM, hc1⟩ : ∃ M : Nat, M ≤ 281474976710656 ∧ (if ((b.length - 4 : Nat) : Int) * 131 / 3 < (n : Int) then ((b.length - 4 : Nat) : Int) * 131 / 3 else (n : Int)) = (M : Int) :=
      ⟨min ((b.length - 4) * 131 / 3) n, by omega, by split <;> omega⟩
    have HC1 := Lib.hid hc1
    clear hb1 HSZ hc1
    go_wp2_with (at_make; go_loud (refine wpList_make_bytes rfl _ rfl (w1.heap.size + 1) _ M rfl HC1.out hM (hbase _) ?_))
    all_goals (
      intro v2 w2 hown2 hb2
      have hb2' := hb2
      obtain ⟨p2, cap2, rfl, _, _⟩ : ∃ p2 cap2, v2 = .slice p2 0 cap2 ∧ 0 ≤ cap2 ∧ cap2 ≤ maxLen := hown2.brow.shape
      have HS0 := Lib.hid (HST.out _ _ _ (BIn.below (by first | exact HD.out.1 (by assumption) | exact HD.out.2 (by assumption)) HB1.out) hb2' hown2)
      have ho2 := HAT.out _ _ hb2'
      have HB0 := Lib.hid (HBW.out _ (.slice p2 0 cap2) _ hb2')
      have hc2 := ho2.made
      have hf2 := ho2.free 1
      clear hb2 hb2' hown2 ho2
      go_wp2_with fail
      go_loopw [34] (fun _ wr => ∃ (k : Nat) (l X : List UInt8), l.length ≤ b.length ∧ l.length ≤ k ∧ X.length ≤ n ∧ Hid (unF n k l X = RES) ∧ Hid (OrdSt w.heap.size w1.heap.size wr l X) ∧ Hid (Below w.heap.size w wr)) (fun _ wr => lenAt wr w1.heap.size)
      case atStart => exact ⟨b.length, l0, [], by have := HDL.out; omega, by have := HDL.out; omega, by simp, H0, HS0, HB0⟩
      case round =>
        obtain ⟨k, l, X, hlb, hlk, hXn, HU, HS, HB⟩ := hrel
        clear HS0 HB0 H0 hc2 hf2
        obtain ⟨hB, vb, vm, ho, hb, hm⟩ := HS.out
        obtain ⟨pb, capb, rfl, _, _⟩ := hb.shape
        obtain ⟨px, capx, rfl, _, _⟩ := hm.brow.shape
        have c0 := ho.left
        have c1 := ho.made
        have hme : lenAt wr w1.heap.size = l.length := by unfold lenAt; rw [c0]
        have HME := Lib.hid hme
        have HM := Lib.hid hm
        clear ho hb hm hme
        cases l with
        | nil =>
          have hu := HU.out
          rw [unF_nil] at hu
          by_cases hx : X.length = n
          · rw [if_pos hx] at hu
            have ha := HANS.out
            rw [← hu] at ha
            subst ha
            have t1 : decide ((X.length : Int) < (n : Int)) = false := by simp; omega
            have t2 : decide (X.length < n) = false := by simp; omega
            clear HU hu hx
            go_wp2_with fail
            go_ret2
            exact ⟨_, rfl, HM.out.weaken (by omega), HB.out⟩
          · rw [if_neg hx] at hu
            have ha := HANS.out
            rw [← hu] at ha
            subst ha
            have t1 : decide ((X.length : Int) < (n : Int)) = true := by simp; omega
            have t2 : decide (X.length < n) = true := by simp; omega
            clear HU hu hx
            go_wp2_with fail
            go_ret2
            exact ⟨_, rfl, own_nil_ _ _, HB.out⟩
        | cons c l =>
          simp only [List.length_cons] at hlb hlk c0 HME
          obtain ⟨k', rfl⟩ : ∃ k', k = k' + 1 := ⟨k - 1, by omega⟩
          have hu := HU.out
          rw [unF_next hXn] at hu
          have HN := Lib.hid (next_any w.heap.size w1.heap.size c l X wr HS.out (by omega) (by omega))
          have hnl := fun l' X' => nextS_len (c := c) (l := l) (X := X) (l' := l') (X' := X')
          generalize nextS c l X = R at *
          have hl0 : (0 : Int) < (l.length : Int) + 1 := by omega
          cases R with
          | none =>
            have ha := HANS.out
            rw [← hu] at ha
            subst ha
            clear HU hu hnl
            go_wp2_with fail
            refine HN.out.mono ?_
            rintro e w2 ⟨rfl, hb2⟩
            have HB2 := Lib.hid (HB.out.trans (hb2.mono hB))
            clear hb2
            go_wp2_with fail
            go_ret2
            exact ⟨_, rfl, own_nil_ _ _, HB2.out⟩
          | some r =>
            obtain ⟨l2, X2⟩ := r
            obtain ⟨n1, n2⟩ := hnl l2 X2 rfl
            dsimp only at hu
            have HU2 := Lib.hid hu
            clear HU hu hnl
            go_wp2_with fail
            refine HN.out.mono ?_
            rintro e w2 ⟨rfl, hs2, hb2⟩
            have HS2 := Lib.hid hs2
            obtain ⟨_, vb2, vm2, ho2, hl2, hm2⟩ := hs2
            obtain ⟨pb2, capb2, rfl, _, _⟩ := hl2.shape
            obtain ⟨px2, capx2, rfl, _, _⟩ := hm2.brow.shape
            have c20 := ho2.left
            have c21 := ho2.made
            have HB2 := Lib.hid (HB.out.trans (hb2.mono hB))
            have hme2 : lenAt w2 w1.heap.size = l2.length := by unfold lenAt; rw [c20]
            have HME2 := Lib.hid hme2
            clear hb2 ho2 hl2 hm2 HN hme2 c20
            by_cases hx2 : n < X2.length
            · have hu := HU2.out
              rw [if_pos hx2] at hu
              have ha := HANS.out
              rw [← hu] at ha
              subst ha
              have t1 : decide ((X2.length : Int) > (n : Int)) = true := by simp; omega
              have t2 : decide (n < X2.length) = true := by simp; omega
              clear HU2 hu
              go_wp2_with fail
              go_ret2
              exact ⟨_, rfl, own_nil_ _ _, HB2.out⟩
            · have hu := HU2.out
              rw [if_neg hx2] at hu
              have HU3 := Lib.hid hu
              have t1 : decide ((X2.length : Int) > (n : Int)) = false := by simp; omega
              have t2 : decide (n < X2.length) = false := by simp; omega
              clear HU2 hu
              go_wp2_with fail
              go_roundw
              case rel => exact ⟨k', l2, X2, by omega, by omega, by omega, HU3, HS2, HB2⟩
              case measure => rw [HME2.out, HME.out]; omega)
  · have hu : unpackL b = ([], (lzSize b).2) := by unfold unpackL; rw [if_neg he]
    rw [hu]
    have t1 : ((lzSize b).2 != 0) = true := by simp [he]
    generalize (lzSize b).2 = er at *
    generalize (lzSize b).1 = n at *
    clear hr hu
    go_enter Try.func13, Try.ntmps13
    go_wp2_with fail
    refine HSZ.out.mono ?_
    rintro e w1 ⟨rfl, hb1⟩
    go_wp2_with fail
    go_ret2
    exact ⟨_, rfl, own_nil_ _ _, hb1⟩
end Go.Proofs.Ytoohkhcmakcggaa.LZ
