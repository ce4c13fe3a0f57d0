/-
  The code's orders: match. Condition: rows stay below 2^40 bytes.
-/
import Derived.Test.YtoohkhcmakcggaaLzOrd
import Derived.Deep.AppendLies
import Derived.Deep.RegionLaw
set_option linter.unusedVariables false
namespace Go.Proofs.Ytoohkhcmakcggaa.LZ
open Go.RowKit Go.Proofs.Ytoohkhcmakcggaa.MM

/-- append(row, b...), as a step of a region that draws. -/
theorem step_append_bytes {w : World} {ops : Array Oper} {o : Oper} {a : Act} {K : Act → World → Prop} {Q : Exit → Act → World → Prop} {E : Prop} (hgd : o.guard = none) (s x : Operand)
    (ho : o.op = .call { callee := .builtin .append, args := #[s, x], argTypes := #[22, 22] }) (B : Nat) (v : Value) (l : List UInt8) (hs : a.eval s = v) (hown : OwnB B w v l)
    (src : Value) (m : List UInt8) (hx : a.eval x = src) (hr : BRow w src m) (hm : m ≠ []) (hlen : l.length + m.length ≤ 140737488355328) (hbase : B ≤ w.heap.size)
    (h : ∀ v' w', OwnB B w' v' (l ++ m) → Below B w w' → K (a.put o.dst v') w') : if Region.wanted o (yielded ops a.tmps) = true then Oper.wp Try.prog o a w K Q else E := by
  obtain ⟨i0, hi, hz0, hz1, hz2⟩ := info_parts infoByte
  have hlo : ∀ k, v.ownBlock = some k → B ≤ k := fun k hk => (World.ownsRow.lt hown k hk).1
  have h0 := List.length_pos_iff.2 hm
  obtain ⟨p, cap, rfl, _, _, h3, hc⟩ := hr
  rcases hc with hc | ⟨b, off, rfl, _, hc⟩
  · have := byteCells_len m; rw [hc] at this; simp at this; omega
  · refine step_append_lies w hgd s x 22 ho B 5 i0 (.int .u8 0) 1 1 Try.underlying22 hi hz0 hz1 hz2 rfl (by decide) v l.length (Lib.byteCells l) hs hown ⟨b, off, none⟩ (Lib.byteCells m).length cap (Lib.byteCells m) hx (by simp)
      (fun j u hu => by rw [add_at]; exact hc j u hu) (byteCells_one m) (by rw [byteCells_len]; omega) (by rw [byteCells_len]; unfold maxLen; omega) (by rw [byteCells_len]; omega) hbase w.heap.size rfl ?_
    intro g cap' w' hown' hgrow _ _
    refine h _ w' ?_ ((Below.refl B w).grown hgrow hbase hlo)
    unfold OwnB
    rw [List.length_append, byteCells_append]
    rw [byteCells_len] at hown' ⊢
    exact hown'

/-! ### match -/
/-- What a match makes of what is left behind its first byte, and of what is made; none: it may not be. -/
def matS (n : Nat) (l X : List UInt8) : Option (List UInt8 × List UInt8) :=
  match l with
  | h :: m :: l' => if 256 * h.toNat + m.toNat = 0 ∨ X.length < 256 * h.toNat + m.toNat then none else some (l', copyL n (256 * h.toNat + m.toNat) X)
  | _ => none
def StepLeft (B g : Nat) (r : Option (List UInt8 × List UInt8)) (w : World) (e : Ending) (w' : World) : Prop :=
  match r with
  | some (l, X) => OrdLeft B g l X w e w'
  | none => e = .returned (.bool false) ∧ Below g w w'
theorem two_of {l : List UInt8} (h : 2 ≤ l.length) : ∃ x y l', l = x :: y :: l' := by
  match l, h with
  | x :: y :: l', _ => exact ⟨x, y, l', rfl⟩
  | [_], h => simp at h
  | [], h => simp at h
theorem matS_none {n : Nat} {l X : List UInt8} (h : l.length < 2) : matS n l X = none := by
  match l, h with
  | [], _ => rfl
  | [_], _ => rfl

set_option maxRecDepth 100000 in
set_option maxHeartbeats 2000000 in
theorem mat_any (B g n : Nat) (l X : List UInt8) (w : World) (h : OrdSt B g w l X) (hn : n ≤ 200) (hX : X.length ≤ 1000000000000) :
    Calls Try.prog 30 #[.pointer (some ⟨g, 0, none⟩), .int .i64 n] w (StepLeft B g (matS n l X) w) := by
  by_cases h2 : l.length < 2
  · rw [matS_none h2]
    have HT := Lib.hid (take_no B g 2 l X w h h2)
    clear h
    go_enter Try.func30, Try.ntmps30
    go_wp2_with fail
    refine HT.out.mono ?_
    rintro e w1 ⟨rfl, rfl⟩
    go_wp2_with fail
    go_ret
    exact ⟨rfl, Below.refl _ _⟩
  · obtain ⟨x, y, l', rfl⟩ := two_of (by omega : 2 ≤ l.length)
    have HT := Lib.hid (take_yes B g 2 (x :: y :: l') X w h (by omega))
    have htk : (x :: y :: l').take 2 = [x, y] := rfl
    have hdr : (x :: y :: l').drop 2 = l' := rfl
    rw [htk, hdr] at HT
    obtain ⟨R, hR⟩ : ∃ R, matS n (x :: y :: l') X = R := ⟨_, rfl⟩
    have hR2 : (if 256 * x.toNat + y.toNat = 0 ∨ X.length < 256 * x.toNat + y.toNat then none else some (l', copyL n (256 * x.toNat + y.toNat) X)) = R := hR
    rw [hR]
    have hx := x.toNat_lt
    have hy := y.toNat_lt
    have hor := or_two x.toNat y.toNat (by omega) (by omega)
    have HC := Lib.hid (fun p cap W (hb : BIn B W (.slice p 2 cap) [x, y]) => And.intro (hb.at_ (k := 0) (by simp)) (hb.at_ (k := 1) (by simp)))
    simp only [List.getElem_cons_zero, List.getElem_cons_succ] at HC
    generalize x.toNat = x1 at *
    generalize y.toNat = x2 at *
    obtain ⟨far, hfar⟩ : ∃ far, 256 * x1 + x2 = far := ⟨_, rfl⟩
    rw [hfar] at hR2
    have HFAR := Lib.hid (hor.trans (show (x1 : Int) * 256 + (x2 : Int) = (far : Int) by omega))
    have hf9 : far ≤ 65535 := by omega
    have hTl := copyL_len n far X
    obtain ⟨T, hT⟩ : ∃ T, copyL n far X = T := ⟨_, rfl⟩
    rw [hT] at hR2 hTl
    have HX0 : Hid (copyL (n - 0) far X = T) := Lib.hid hT
    have HTl := Lib.hid hTl
    have HR := Lib.hid hR2
    clear h hR hR2 hor hfar htk hdr h2 hT hTl
    go_enter Try.func30, Try.ntmps30
    go_wp2_with fail
    refine HT.out.mono ?_
    rintro e w1 ⟨v, rfl, hv, ⟨hB, vb, vm, ho, hb, hm⟩, hb1⟩
    obtain ⟨pa, capa, rfl, hc2, _⟩ := hv.shape
    obtain ⟨⟨blk, off, rfl, hbl, c1⟩, ⟨_, _, hp, _, c2⟩⟩ := HC.out pa capa w1 hv
    simp only [Option.some.injEq, Addr.mk.injEq] at hp
    obtain ⟨rfl, rfl, _⟩ := hp
    rw [Nat.add_zero] at c1
    clear hv HC HT
    go_wp2_with fail
    go_quiet (fail)
    rw [HFAR.out]
    obtain ⟨W, hW⟩ : ∃ W, w1.drewN nq = W := ⟨_, rfl⟩
    have HBW := Lib.hid (show Below g w W by rw [← hW]; exact below_drewN hb1 nq)
    have hsame : Below w1.heap.size w1 W := by rw [← hW]; exact below_drewN (Below.refl _ _) nq
    have HOW := Lib.hid (ho.below hsame ho.lt)
    have HRW := Lib.hid (hb.below (hsame.mono (by have := ho.lt; omega)))
    have HMW := Lib.hid (hm.keep hsame)
    rw [hW]
    obtain ⟨px, capx, rfl, _, _⟩ := hm.brow.shape
    have hcm := HOW.out.made
    clear hW hb1 ho hb hm hsame c1 c2
    by_cases hz : far = 0 ∨ X.length < far
    · have hr := HR.out
      rw [if_pos hz] at hr
      subst hr
      by_cases f0 : far = 0
      · have t2 : ((far : Int) == 0) = true := by simp [f0]
        clear f0 hz
        go_wp2_with fail
        go_ret
        exact ⟨rfl, HBW.out⟩
      · have t2 : ((far : Int) == 0) = false := by rw [beq_eq_false_iff_ne]; omega
        have t3 : decide ((far : Int) > (X.length : Int)) = true := by simp; omega
        have t6 : decide (X.length < far) = true := by simp; omega
        clear f0 hz
        go_wp2_with fail
        go_ret
        exact ⟨rfl, HBW.out⟩
    · have hr := HR.out
      rw [if_neg hz] at hr
      subst hr
      have t2 : ((far : Int) == 0) = false := by rw [beq_eq_false_iff_ne]; omega
      have t3 : decide ((far : Int) > (X.length : Int)) = false := by simp; omega
      have t6 : decide (X.length < far) = false := by simp; omega
      have f1 : 1 ≤ far := by omega
      have f2 : far ≤ X.length := by omega
      clear hz HR hcm
      have hcm := HOW.out.made
      go_wp2_with fail
      go_loopw [39] (fun iv wq => ∃ (i : Nat) (Y : List UInt8) (vy : Value), i ≤ n ∧ far ≤ Y.length ∧ Hid (Y.length + (n - i) = X.length + n) ∧ iv = .int .i64 i ∧ Hid (copyL (n - i) far Y = T) ∧ Hid (OrdAt wq g vb vy) ∧ Hid (BIn B wq vb l') ∧ Hid (OwnB (g + 1) wq vy Y) ∧ Hid (Below g w wq)) (fun iv _ => n - (intOf iv).toNat)
      case atStart => exact ⟨0, X, _, by omega, f2, Lib.hid (by omega), by go_num, HX0, HOW, HRW, HMW, HBW⟩
      case round =>
        obtain ⟨i, Y, vy, hi, hfY, HYn, rfl, HT, HO, HRr, HM, HB⟩ := hrel
        clear HX0 HOW HRW HMW HBW hcm
        have hc1 := HO.out.made
        have hlt := HO.out.lt
        by_cases hlt2 : i < n
        · have t5 : decide ((i : Int) < (n : Int)) = true := by simp; omega
          obtain ⟨k, capk, rfl, hgB, hYc, hcm2⟩ := HM.out.shape (by omega)
          have hY := HM.out.cell (j := Y.length - far) (c := Y.getD (Y.length - far) 0) (by rw [List.getD_eq_getElem?_getD, List.getElem?_eq_getElem (by omega)]; rfl)
          have hT := HT.out
          rw [show n - i = n - (i + 1) + 1 by omega] at hT
          unfold copyL at hT
          have hYn := HYn.out
          generalize Y.getD (Y.length - far) 0 = y8 at *
          have hy8 := y8.toNat_lt
          have hYlen : Y.length ≤ 1000000001000 := by omega
          have HYn2 := Lib.hid (show Y.length + 1 + (n - (i + 1)) = X.length + n by omega)
          obtain ⟨Z, hZ⟩ : ∃ Z, Y ++ [y8] = Z := ⟨_, rfl⟩
          have hZl : Z.length = Y.length + 1 := by rw [← hZ]; simp
          rw [hZ] at hT
          have HT2 := Lib.hid hT
          have HZl := Lib.hid hZl
          obtain ⟨j, hj⟩ : ∃ j, Y.length - far = j := ⟨_, rfl⟩
          rw [hj] at hY
          have hwr : IntKind.i64.wrap ((Y.length : Int) - (far : Int)) = (j : Int) := by rw [IntKind.wrap_i64]; omega
          have i3 : (0 : Int) ≤ (j : Int) := by omega
          have i4 : (j : Int) < (Y.length : Int) := by omega
          have hba : Below wr.heap.size wr (wr.alloc (.cells #[.int .u8 (y8.toNat : Int)] 5)).drew := ((Below.refl _ _).alloc (Nat.le_refl _) _).drew
          have HOa := Lib.hid (HM.out.keep hba)
          have HBA := Lib.hid hba
          have HL := Lib.hid (show BRow (wr.alloc (.cells #[.int .u8 (y8.toNat : Int)] 5)).drew (.slice (some ⟨wr.heap.size, 0, none⟩) 1 1) [y8] from lit_of (w := wr) y8)
          have hne : [y8] ≠ [] := by simp
          have hl1 : Y.length + [y8].length ≤ 140737488355328 := by simp; omega
          have hsz2 : g + 1 ≤ ((wr.alloc (.cells #[.int .u8 (y8.toNat : Int)] 5)).drew).heap.size := by have := hba.size; omega
          have HOO := Lib.hid (HO.out.below hba hlt)
          clear hj hT HT hZl HYn hYn hba
          go_wp2_with fail
          go_region_law (refine step_append_bytes rfl _ _ rfl (g + 1) _ Y rfl HOa.out _ [y8] rfl HL.out hne hl1 hsz2 ?_; intro v3 w3 hown3 hb3; rw [hZ] at hown3; have ho3 := HOO.out.below hb3 (Nat.lt_succ_self g); have hf3 := ho3.free 1; have hc3 := ho3.made; have HO3 := Lib.hid ho3; obtain ⟨p3, cap3, rfl, _, _⟩ := hown3.brow.shape; have HW3 := Lib.hid hown3; have HB3 := Lib.hid hb3; clear ho3 hown3 hb3)
          all_goals (
            have hb3 := HB3.out
            have hown3 := HW3.out
            have HO4 := Lib.hid (HO3.out.set1 (.slice p3 Z.length cap3))
            have HM4 := Lib.hid (own_set (i := 1) (u := .slice p3 Z.length cap3) hown3 (Nat.lt_succ_self g))
            have HB4 := Lib.hid ((HB.out.trans ((HBA.out.mono (by omega)).trans (hb3.mono (Nat.le_succ g)))).trans (below_set (i := 1) (Nat.le_refl g) (.slice p3 Z.length cap3)))
            have HR4 := Lib.hid (HRr.out.below ((HBA.out.mono (by omega)).trans ((hb3.mono (by omega)).trans (below_set (i := 1) hB (.slice p3 Z.length cap3)))))
            clear hb3 hown3 HW3 HB3 HO3 hc3 hf3
            go_wp2_with fail
            go_roundw
            case rel =>
              have hyl := HZl.out
              have hyn := HYn2.out
              exact ⟨i + 1, Z, _, by omega, by omega, Lib.hid (by omega), by go_num, HT2, HO4, HR4, HM4, HB4⟩
            case measure => simp [intOf]; omega)
        · obtain rfl : i = n := by omega
          have t5 : decide ((i : Int) < (i : Int)) = false := by simp
          have hT := HT.out
          rw [Nat.sub_self] at hT
          obtain rfl : Y = T := hT
          go_wp2_with fail
          go_ret
          exact ⟨rfl, ⟨hB, _, _, HO.out, HRr.out, HM.out⟩, HB.out⟩
end Go.Proofs.Ytoohkhcmakcggaa.LZ
