/-
  The reference's Size and Unpack: what the plain lists say. No condition.
-/
import Derived.Test.YtoohkhcmakcggaaLzRef2
import Derived.Test.YtoohkhcmakcggaaOwnSet
set_option linter.unusedVariables false
namespace Go.Proofs.Ytoohkhcmakcggaa.LZ
open Go.RowKit Go.Proofs.Ytoohkhcmakcggaa.MM

/-! ### Size -/
theorem size4_at : ∀ (l : List UInt8) (h : 4 ≤ l.length), sizeOf4 l = l[0].toNat * 16777216 + l[1].toNat * 65536 + l[2].toNat * 256 + l[3].toNat
  | a :: b :: c :: d :: l, _ => rfl
  | [], h => by simp at h
  | [_], h => by simp at h
  | [_, _], h => by simp at h
  | [_, _, _], h => by simp at h
set_option maxRecDepth 100000 in
set_option maxHeartbeats 1000000 in
theorem rsize_any (v : Value) (l : List UInt8) (w : World) (hr : BRow w v l) :
    Calls Try.prog 16 #[v] w fun e w' => e = .returned (.tuple #[.int .i64 ((lzSize l).1 : Int), .int .i64 (lzSize l).2]) ∧ Below w.heap.size w w' := by
  obtain ⟨p, cap, rfl, hlc, hcm⟩ := hr.shape
  unfold maxLen at hcm
  by_cases h4 : l.length < 4
  · have e : lzSize l = (0, 6) := by unfold lzSize; rw [if_pos h4]
    rw [e]
    clear hr e
    go_enter Try.func16, Try.ntmps16
    go_wp2_with fail
    go_ret2
    exact ⟨rfl, Below.refl _ _⟩
  · obtain ⟨b, off, rfl, hbl, c0⟩ := hr.at_ (k := 0) (by omega)
    obtain ⟨b1, off1, hp1, _, c1⟩ := hr.at_ (k := 1) (by omega)
    obtain ⟨b2, off2, hp2, _, c2⟩ := hr.at_ (k := 2) (by omega)
    obtain ⟨b3, off3, hp3, _, c3⟩ := hr.at_ (k := 3) (by omega)
    simp only [Option.some.injEq, Addr.mk.injEq] at hp1 hp2 hp3
    obtain ⟨rfl, rfl, _⟩ := hp1
    obtain ⟨rfl, rfl, _⟩ := hp2
    obtain ⟨rfl, rfl, _⟩ := hp3
    have h0 := l[0].toNat_lt
    have h1 := l[1].toNat_lt
    have h2 := l[2].toNat_lt
    have h3 := l[3].toNat_lt
    have he := size4_at l (by omega)
    have hs : lzSize l = if 16777216 < sizeOf4 l then (0, 2) else (sizeOf4 l, 0) := by unfold lzSize; rw [if_neg h4]
    generalize l[0].toNat = x0 at *
    generalize l[1].toNat = x1 at *
    generalize l[2].toNat = x2 at *
    generalize l[3].toNat = x3 at *
    generalize sizeOf4 l = F at *
    obtain ⟨M, hM⟩ : ∃ M, lzSize l = M := ⟨_, rfl⟩
    rw [hM]
    rw [hM] at hs
    have HS := Lib.hid hs
    have HVAL := Lib.hid (show (x0 : Int) * 16777216 + (x1 : Int) * 65536 + (x2 : Int) * 256 + (x3 : Int) = (F : Int) by omega)
    rw [Nat.add_zero] at c0
    clear hr he hs hM
    go_enter Try.func16, Try.ntmps16
    go_wp2_with fail
    go_quiet (fail)
    rw [HVAL.out]
    clear c0 c1 c2 c3
    by_cases hbig : 16777216 < F
    · have hs := HS.out
      rw [if_pos hbig] at hs
      subst hs
      have t1 : decide ((F : Int) > 16777216) = true := by simp; omega
      clear HS
      go_wp2_with fail
      go_ret2
      exact ⟨rfl, below_drewN (Below.refl _ _) _⟩
    · have hs := HS.out
      rw [if_neg hbig] at hs
      subst hs
      have t1 : decide ((F : Int) > 16777216) = false := by simp; omega
      clear HS
      go_wp2_with fail
      go_ret2
      exact ⟨rfl, below_drewN (Below.refl _ _) _⟩

/-! ### Unpack -/
/-- What Unpack answers of what orders stand for. -/
def answer (r : Option (List UInt8)) : List UInt8 × Int := match r with | some out => (out, 0) | none => ([], 50)
theorem own_nil_ (B : Nat) (w : World) : OwnB B w (.slice none 0 0) [] := World.ownsRow_nil _ _ _ _
def TwoLeft (B : Nat) (a : List UInt8 × Int) (w : World) (e : Ending) (w' : World) : Prop := ∃ v', e = .returned (.tuple #[v', .int .i64 a.2]) ∧ OwnB B w' v' a.1 ∧ Below w.heap.size w w'
theorem unF_nil {n k : Nat} {out : List UInt8} : unF n k [] out = if out.length = n then some out else none := by cases k <;> simp [unF]
theorem drop_one {l : List UInt8} {a : Nat} (h : a < l.length) : l.drop a = l[a] :: l.drop (a + 1) := List.drop_eq_getElem_cons h

theorem matF_short {n k : Nat} {c : UInt8} {l out : List UInt8} (h : l.length < 2) : matF n k c l out = none := by
  match l, h with
  | [], _ => rfl
  | [_], _ => rfl
theorem matF_two {n k : Nat} {c : UInt8} {b out : List UInt8} {i : Nat} (h : i + 1 < b.length) :
    matF n k c (b.drop i) out = if 256 * b[i].toNat + b[i + 1].toNat = 0 ∨ out.length < 256 * b[i].toNat + b[i + 1].toNat ∨ n - out.length < c.toNat - 124 then none else unF n k (b.drop (i + 2)) (copyL (c.toNat - 124) (256 * b[i].toNat + b[i + 1].toNat) out) := by
  rw [drop_one (show i < b.length by omega), drop_one h]
  rfl

theorem lit_of {w : World} (c : UInt8) : BRow (w.alloc (.cells #[.int .u8 (c.toNat : Int)] 5)) (.slice (some ⟨w.heap.size, 0, none⟩) 1 1) [c] :=
  BRow.of_own (l := [c]) (own_lit w (Lib.byteCells [c]) 5 0 (Nat.zero_le _) (by rw [byteCells_len]; unfold maxLen; simp))

set_option maxRecDepth 100000 in
set_option maxHeartbeats 4000000 in
theorem runpack_any (v : Value) (b : List UInt8) (w : World) (hr : BRow w v b) (hbl : b.length ≤ 1000000000000) : Calls Try.prog 14 #[v] w (TwoLeft w.heap.size (unpackL b) w) := by
  obtain ⟨p, cap, rfl, hlc, hcm⟩ := hr.shape
  unfold maxLen at hcm
  have HSZ := Lib.hid (rsize_any _ b w hr)
  have HR := Lib.hid (show BIn w.heap.size w (.slice p b.length cap) b from hr)
  by_cases he : (lzSize b).2 = 0
  · have hu : unpackL b = answer (unF (lzSize b).1 b.length (b.drop 4) []) := by unfold unpackL; rw [if_pos he]; rfl
    have h4 : 4 ≤ b.length := by
      unfold lzSize at he
      split at he
      · simp at he
      · omega
    have hn : (lzSize b).1 ≤ 16777216 := by
      unfold lzSize
      split
      · simp
      · split
        · simp
        · simp; omega
    rw [he] at HSZ
    generalize (lzSize b).1 = n at *
    obtain ⟨RES, hRES⟩ : ∃ RES, unF n b.length (b.drop 4) [] = RES := ⟨_, rfl⟩
    rw [hRES] at hu
    rw [hu]
    have H0 : Hid (unF n b.length (b.drop 4) [] = RES) := Lib.hid hRES
    obtain ⟨ANS, hANS⟩ : ∃ A, answer RES = A := ⟨_, rfl⟩
    rw [hANS]
    have HANS := Lib.hid hANS
    clear hr hu he hRES hANS
    go_enter Try.func14, Try.ntmps14
    go_wp2_with fail
    refine HSZ.out.mono ?_
    rintro e w1 ⟨rfl, hb1⟩
    have HO0 : Hid (OwnB w.heap.size w1 (.slice none 0 0) []) := Lib.hid (own_nil_ _ _)
    have HB0 := Lib.hid hb1
    clear hb1 HSZ
    go_wp2_with fail
    go_loopw [6, 7] (fun o at_ wr => ∃ (a k : Nat) (X : List UInt8), a ≤ b.length ∧ b.length - a ≤ k ∧ X.length ≤ n ∧ at_ = .int .i64 a ∧ Hid (unF n k (b.drop a) X = RES) ∧ Hid (OwnB w.heap.size wr o X) ∧ Hid (Below w.heap.size w wr)) (fun _ at_ _ => b.length - (intOf at_).toNat)
    case atStart => exact ⟨4, b.length, [], h4, by omega, by simp, rfl, H0, HO0, HB0⟩
    case round =>
      obtain ⟨a, k, X, hab, hk, hXn, rfl, HU, HO, HB⟩ := hrel
      clear H0 HO0 HB0
      by_cases hlt : a < b.length
      · obtain ⟨k', rfl⟩ : ∃ k', k = k' + 1 := ⟨k - 1, by omega⟩
        obtain ⟨blk, off, hp, hbk, _⟩ := (HR.out).at_ (k := a) hlt
        subst hp
        obtain ⟨blk', off', hp, _, hcell⟩ := (HR.out.below HB.out).at_ (k := a) hlt
        simp only [Option.some.injEq, Addr.mk.injEq] at hp
        obtain ⟨rfl, rfl, _⟩ := hp
        have hu := HU.out
        rw [drop_one hlt] at hu
        generalize b[a] = c8 at *
        have hc8 := c8.toNat_lt
        obtain ⟨px, capx, rfl, _, _⟩ := HO.out.brow.shape
        have hszw := HB.out.size
        by_cases hc : c8.toNat < 128
        · rw [unF_run_ hc, List.length_drop] at hu
          generalize c8.toNat = c at *
          by_cases hA : b.length - (a + 1) < c + 1
          · rw [if_pos (.inl hA)] at hu
            have ha := HANS.out
            rw [← hu] at ha
            subst ha
            have t1 : decide ((c : Int) + 1 > (b.length : Int) - ((a : Int) + 1)) = true := by simp; omega
            clear HU hu
            go_wp2_with fail
            go_ret2
            exact ⟨_, rfl, own_nil_ _ _, HB.out⟩
          · have t1 : decide ((c : Int) + 1 > (b.length : Int) - ((a : Int) + 1)) = false := by simp; omega
            by_cases hBB : n - X.length < c + 1
            · rw [if_pos (.inr hBB)] at hu
              have ha := HANS.out
              rw [← hu] at ha
              subst ha
              have t2 : decide ((c : Int) + 1 > (n : Int) - (X.length : Int)) = true := by simp; omega
              clear HU hu
              go_wp2_with fail
              go_ret2
              exact ⟨_, rfl, own_nil_ _ _, HB.out⟩
            · rw [if_neg (by omega), List.drop_drop] at hu
              have t2 : decide ((c : Int) + 1 > (n : Int) - (X.length : Int)) = false := by simp; omega
              have hrow := part_row (i := a + 1) (j := a + 1 + (c + 1)) (HR.out.below HB.out) (by omega) (by omega) (by omega)
              have hpart : (b.drop (a + 1)).take (c + 1) = part b (a + 1) (a + 1 + (c + 1)) := by unfold part; congr 1; omega
              rw [hpart] at hu
              have hpl := part_len (b := b) (i := a + 1) (j := a + 1 + (c + 1)) (by omega) (by omega)
              rw [show a + 1 + (c + 1) - (a + 1) = a + 1 + c + 1 - (a + 1) by omega] at hrow
              have hpl2 : (part b (a + 1) (a + 1 + (c + 1))).length = c + 1 := by omega
              generalize part b (a + 1) (a + 1 + (c + 1)) = Z at *
              have HU2 := Lib.hid hu
              have HROW := Lib.hid (hrow.row hszw)
              have hl1 : X.length + Z.length ≤ 140737488355328 := by omega
              have i1 : (a : Int) + 1 + (c : Int) + 1 ≤ (cap : Int) := by omega
              have e5 : a + 1 + (c + 1) = a + 1 + c + 1 := by omega
              rw [e5] at HU2
              have Q1 := Lib.hid (show a + 1 + c + 1 ≤ b.length by omega)
              have Q2 := Lib.hid (show X.length + Z.length ≤ n by omega)
              clear HU hu hrow hpart hA hBB hpl e5
              go_wp2_with (at_builtin; refine wpList_append_bytes rfl _ _ rfl w.heap.size _ X rfl HO.out _ Z rfl HROW.out hl1 hszw ?_)
              intro v3 w3 hown3 hb3
              have HO3 := Lib.hid hown3
              have HB3 := Lib.hid (HB.out.trans hb3)
              clear hown3 hb3
              go_wp2_with fail
              go_roundw
              case rel =>
                have q1 := Q1.out
                have q2 := Q2.out
                exact ⟨a + 1 + c + 1, k', X ++ Z, by omega, by omega, by rw [List.length_append]; omega, by go_num, HU2, HO3, HB3⟩
              case measure =>
                have q1 := Q1.out
                simp [intOf]
                omega
        · rw [unF_mat_ hc] at hu
          by_cases hS : b.length - (a + 1) < 2
          · rw [matF_short (by rw [List.length_drop]; omega)] at hu
            have ha := HANS.out
            rw [← hu] at ha
            subst ha
            generalize c8.toNat = c at *
            have t0 : decide ((c : Int) < 128) = false := by simp; omega
            have t1 : decide ((b.length : Int) - ((a : Int) + 1) < 2) = true := by simp; omega
            clear HU hu
            go_wp2_with fail
            go_ret2
            exact ⟨_, rfl, own_nil_ _ _, HB.out⟩
          · rw [matF_two (by omega)] at hu
            obtain ⟨_, _, hp, _, cell1⟩ := (HR.out.below HB.out).at_ (k := a + 1) (by omega)
            simp only [Option.some.injEq, Addr.mk.injEq] at hp
            obtain ⟨rfl, rfl, _⟩ := hp
            obtain ⟨_, _, hp, _, cell2⟩ := (HR.out.below HB.out).at_ (k := a + 1 + 1) (by omega)
            simp only [Option.some.injEq, Addr.mk.injEq] at hp
            obtain ⟨rfl, rfl, _⟩ := hp
            have hb1 := b[a + 1].toNat_lt
            have hb2 := b[a + 1 + 1].toNat_lt
            generalize b[a + 1].toNat = x1 at *
            generalize b[a + 1 + 1].toNat = x2 at *
            generalize c8.toNat = c at *
            obtain ⟨far, hfar⟩ : ∃ far, 256 * x1 + x2 = far := ⟨_, rfl⟩
            rw [hfar] at hu
            have HFAR := Lib.hid (show 256 * (x1 : Int) + (x2 : Int) = (far : Int) by omega)
            have hf9 : far ≤ 65535 := by omega
            have t0 : decide ((c : Int) < 128) = false := by simp; omega
            have t1 : decide ((b.length : Int) - ((a : Int) + 1) < 2) = false := by simp; omega
            have i1 : (a : Int) + 1 < (b.length : Int) := by omega
            have i2 : (a : Int) + 1 + 1 < (b.length : Int) := by omega
            have HC := Lib.hid hc
            have HS := Lib.hid hS
            clear hfar hc hS
            have HXX := Lib.hid hu
            clear HU hu
            go_wp2_with fail
            go_quiet (fail)
            rw [HFAR.out]
            obtain ⟨W, hW⟩ : ∃ W, wr.drewN nq = W := ⟨_, rfl⟩
            have HBW := Lib.hid (show Below w.heap.size w W by rw [← hW]; exact below_drewN HB.out nq)
            have HOW := Lib.hid (HO.out.keep (w' := W) (by rw [← hW]; exact below_drewN (Below.refl _ _) nq))
            rw [hW]
            clear hW HB HO cell1 cell2 hcell
            have hsw := HBW.out.size
            by_cases hW : far = 0 ∨ X.length < far ∨ n - X.length < c - 124
            · have hu := HXX.out
              rw [if_pos hW] at hu
              have ha := HANS.out
              rw [← hu] at ha
              subst ha
              have hc := HC.out
              have HW := Lib.hid hW
              clear HXX hu hW
              by_cases f0 : far = 0
              · have t2 : ((far : Int) == 0) = true := by simp [f0]
                have F0 := Lib.hid f0
                clear f0
                go_wp2_with fail
                go_ret2
                exact ⟨_, rfl, own_nil_ _ _, HBW.out⟩
              · have t2 : ((far : Int) == 0) = false := by rw [beq_eq_false_iff_ne]; omega
                by_cases f1 : X.length < far
                · have t3 : decide ((far : Int) > (X.length : Int)) = true := by simp; omega
                  go_wp2_with fail
                  go_ret2
                  exact ⟨_, rfl, own_nil_ _ _, HBW.out⟩
                · have t3 : decide ((far : Int) > (X.length : Int)) = false := by simp; omega
                  have hw := HW.out
                  have t4 : decide ((c : Int) - 124 > (n : Int) - (X.length : Int)) = true := by simp; omega
                  clear hw
                  go_wp2_with fail
                  go_ret2
                  exact ⟨_, rfl, own_nil_ _ _, HBW.out⟩
            · have hu := HXX.out
              rw [if_neg hW] at hu
              have hc := HC.out
              have t2 : ((far : Int) == 0) = false := by rw [beq_eq_false_iff_ne]; omega
              have t3 : decide ((far : Int) > (X.length : Int)) = false := by simp; omega
              have t4 : decide ((c : Int) - 124 > (n : Int) - (X.length : Int)) = false := by simp; omega
              have t6 : decide (X.length < far) = false := by simp; omega
              have f1 : 1 ≤ far := by omega
              have f2 : far ≤ X.length := by omega
              have f3 : X.length + (c - 124) ≤ n := by omega
              have f4 : c - 124 ≤ 131 := by omega
              have hTl := copyL_len (c - 124) far X
              obtain ⟨T, hT⟩ : ∃ T, copyL (c - 124) far X = T := ⟨_, rfl⟩
              rw [hT] at hu hTl
              have HT0 : Hid (copyL (c - 124 - 0) far X = T) := Lib.hid hT
              have HU2 := Lib.hid hu
              have HTl := Lib.hid hTl
              have HF3 := Lib.hid f3
              clear HXX hu hT hTl hW f3
              go_wp2_with fail
              go_loopw [6, 10] (fun o iv wq => ∃ (i : Nat) (Y : List UInt8), i ≤ c - 124 ∧ far ≤ Y.length ∧ Hid (Y.length + (c - 124 - i) ≤ n) ∧ iv = .int .i64 i ∧ Hid (copyL (c - 124 - i) far Y = T) ∧ Hid (OwnB w.heap.size wq o Y) ∧ Hid (Below w.heap.size w wq)) (fun _ iv _ => c - 124 - (intOf iv).toNat)
              case atStart => exact ⟨0, X, by omega, f2, HF3, by go_num, HT0, HOW, HBW⟩
              case round =>
                obtain ⟨i, Y, hi, hfY, HYn, rfl, HT, HO, HB⟩ := hrel
                clear HT0 HOW HBW
                by_cases hlt2 : i < c - 124
                · have t5 : decide ((i : Int) < (c : Int) - 124) = true := by simp; omega
                  obtain ⟨g, capg, rfl, hgB, hYc, hcm2⟩ := HO.out.shape (by omega)
                  have hY := HO.out.cell (j := Y.length - far) (c := Y.getD (Y.length - far) 0) (by rw [List.getD_eq_getElem?_getD, List.getElem?_eq_getElem (by omega)]; rfl)
                  have hT := HT.out
                  rw [show c - 124 - i = c - 124 - (i + 1) + 1 by omega] at hT
                  unfold copyL at hT
                  have hYn := HYn.out
                  generalize Y.getD (Y.length - far) 0 = y8 at *
                  have hy8 := y8.toNat_lt
                  have HT2 := Lib.hid hT
                  have HYn2 := Lib.hid (show Y.length + 1 + (c - 124 - (i + 1)) ≤ n by omega)
                  have i3 : (far : Int) ≤ (Y.length : Int) := by omega
                  have hba : Below wr.heap.size wr (wr.alloc (.cells #[.int .u8 (y8.toNat : Int)] 5)) := (Below.refl _ _).alloc (Nat.le_refl _) _
                  have HB2 := Lib.hid (grow HB.out hba)
                  have HOa := Lib.hid (HO.out.keep hba)
                  have HL := Lib.hid (lit_of (w := wr) y8)
                  have hl1 : Y.length + [y8].length ≤ 140737488355328 := by simp; omega
                  have hsz2 := HB2.out.size
                  have HYl := Lib.hid (show (Y ++ [y8]).length = Y.length + 1 by simp)
                  clear hba HT HYn hT
                  generalize [y8] = Z at *
                  go_wp2_with (at_builtin; refine wpList_append_bytes rfl _ _ rfl w.heap.size _ Y rfl HOa.out _ Z rfl HL.out hl1 hsz2 ?_)
                  intro v3 w3 hown3 hb3
                  have HO3 := Lib.hid hown3
                  have HB3 := Lib.hid (HB2.out.trans hb3)
                  clear hown3 hb3
                  go_wp2_with fail
                  go_roundw
                  case rel =>
                    have hyl := HYl.out
                    have hyn := HYn2.out
                    exact ⟨i + 1, Y ++ Z, by omega, by omega, Lib.hid (by omega), by go_num, HT2, HO3, HB3⟩
                  case measure => simp [intOf]; omega
                · obtain rfl : i = c - 124 := by omega
                  have t5 : decide (((c - 124 : Nat) : Int) < (c : Int) - 124) = false := by simp; omega
                  have hT := HT.out
                  rw [Nat.sub_self] at hT
                  obtain rfl : Y = T := hT
                  have HS2 := HS.out
                  have hTl := HTl.out
                  have hf3 := HF3.out
                  clear HT HYn
                  go_wp2_with fail
                  go_roundw
                  case rel => exact ⟨a + 1 + 2, k', Y, by omega, by omega, by omega, by go_num, HU2, HO, HB⟩
                  case measure => simp [intOf]; omega
      · obtain rfl : a = b.length := by omega
        have hu := HU.out
        rw [List.drop_length, unF_nil] at hu
        obtain ⟨px, capx, rfl, _, _⟩ := HO.out.brow.shape
        by_cases hx : X.length = n
        · rw [if_pos hx] at hu
          have ha := HANS.out
          rw [← hu] at ha
          subst ha
          have t1 : ((X.length : Int) != (n : Int)) = false := by simp [hx]
          clear HU hu hx
          go_wp2_with fail
          go_ret2
          exact ⟨_, rfl, HO.out, HB.out⟩
        · rw [if_neg hx] at hu
          have ha := HANS.out
          rw [← hu] at ha
          subst ha
          have t1 : ((X.length : Int) != (n : Int)) = true := by rw [bne_iff_ne]; omega
          clear HU hu hx
          go_wp2_with fail
          go_ret2
          exact ⟨_, rfl, own_nil_ _ _, HB.out⟩
  · have hu : unpackL b = ([], (lzSize b).2) := by unfold unpackL; rw [if_neg he]
    rw [hu]
    have t1 : ((lzSize b).2 != 0) = true := by simp [he]
    generalize (lzSize b).2 = er at *
    generalize (lzSize b).1 = n at *
    clear hr hu
    go_enter Try.func14, Try.ntmps14
    go_wp2_with fail
    refine HSZ.out.mono ?_
    rintro e w1 ⟨rfl, hb1⟩
    go_wp2_with fail
    go_ret2
    exact ⟨_, rfl, own_nil_ _ _, hb1⟩
end Go.Proofs.Ytoohkhcmakcggaa.LZ
