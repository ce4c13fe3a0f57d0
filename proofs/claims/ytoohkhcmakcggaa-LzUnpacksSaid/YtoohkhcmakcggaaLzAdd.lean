/-
  The code's add: a place's match is told, the place becomes a top. Condition: fewer than 65537 bytes.
-/
import Derived.Test.YtoohkhcmakcggaaLzLift
import Derived.Test.YtoohkhcmakcggaaLzAlike
import Derived.Test.YtoohkhcmakcggaaLzWay
import Derived.BigRegion
set_option linter.unusedVariables false
namespace Go.Proofs.Ytoohkhcmakcggaa.LZ
open Go.RowKit Go.Proofs.Ytoohkhcmakcggaa.MM Go.Maps

def AddLeft (b : List UInt8) (a mb ub n : Nat) (w : World) (e : Ending) (w' : World) : Prop :=
  ∃ (n' : Nat) (D : DataW Unit) (U : List Int), e = .returned (.tuple #[.int .i64 ((matchL b a).2 : Int), .int .i64 ((matchL b a).1 : Int)]) ∧ n' ≤ n + 1 ∧ MapAt w' mb n' D ∧ UAt w' ub U ∧ Places b (a + 1) U (topD D) ∧ Kep (fun k => k ≠ mb ∧ k ≠ ub) w w'
theorem PlAt.ne_map {w : World} {g mb n : Nat} {vb vu : Value} {m2 : Nat} {D : DataW Unit} (h : PlAt w g vb mb vu) (hm : MapAt w m2 n D) : g ≠ m2 := by
  rintro rfl
  obtain ⟨es, clock, hb, _⟩ := hm
  unfold PlAt at h
  rw [h] at hb
  cases hb
theorem UAt.ne_map {w : World} {ub n m2 : Nat} {U : List Int} {D : DataW Unit} (h : UAt w ub U) (hm : MapAt w m2 n D) : ub ≠ m2 := by
  rintro rfl
  obtain ⟨es, clock, hb, _⟩ := hm
  obtain ⟨cur, hh, _⟩ := h
  rw [hh] at hb
  cases hb
theorem PlAt.ne_cells {w : World} {g mb ub : Nat} {vb vu : Value} {U : List Int} (h : PlAt w g vb mb vu) (hu : UAt w ub U) : g ≠ ub := by
  rintro rfl
  obtain ⟨cur, hh, _⟩ := hu
  unfold PlAt at h
  rw [h] at hh
  injection hh with hh
  injection hh with _ ht _
  exact absurd ht (by decide)
set_option maxRecDepth 100000 in
theorem add_pass (B g mb ub n a capu : Nat) (vb : Value) (b : List UInt8) (D : DataW Unit) (U : List Int) (w : World) (hp : PlAt w g vb mb (.slice (some ⟨ub, 0, none⟩) b.length capu)) (hb : BIn B w vb b) (hm : MapAt w mb n D) (hu : UAt w ub U)
    (hP : Places b a U (topD D)) (ha : a < b.length) (hl : b.length < a + 4) : Calls Try.prog 19 #[.pointer (some ⟨g, 0, none⟩), .int .i64 a] w (AddLeft b a mb ub n w) := by
  have HF := Lib.hid (show AddLeft b a mb ub n w (.returned (.tuple #[.int .i64 0, .int .i64 0])) w from ⟨n, D, U, by rw [match_end hl]; rfl, Nat.le_succ _, hm, hu, hP.pass hl, Kep.refl _ _⟩)
  obtain ⟨p, cap, rfl, hlc, hcm⟩ := hb.shape
  have hc := hp.bytes
  have i1 : (a : Int) ≤ (b.length : Int) := by omega
  have i2 : (a : Int) ≤ (cap : Int) := by omega
  have hcap : ¬ cap = a := by omega
  have t1 : decide (((b.length - a : Nat) : Int) < 4) = true := by simp; omega
  have t2 : decide (b.length - a < 4) = true := by simp; omega
  clear hp hb hm hu hP
  go_enter Try.func19, Try.ntmps19
  go_wp2_with fail
  go_ret2
  exact HF.out
set_option maxRecDepth 100000 in
set_option maxHeartbeats 4000000 in
theorem add_go (B g mb ub n a capu : Nat) (vb : Value) (b : List UInt8) (D : DataW Unit) (U : List Int) (w : World) (hp : PlAt w g vb mb (.slice (some ⟨ub, 0, none⟩) b.length capu)) (hb : BIn B w vb b) (hB : B ≤ w.heap.size) (hm : MapAt w mb n D) (hu : UAt w ub U)
    (hP : Places b a U (topD D)) (ha : a + 4 ≤ b.length) (hl : b.length ≤ 65536) (hn : n ≤ 65536) (h0 : a = 0 → D = .map []) (hcu : b.length ≤ capu) (bm : B ≤ mb) (bu : B ≤ ub) : Calls Try.prog 19 #[.pointer (some ⟨g, 0, none⟩), .int .i64 a] w (AddLeft b a mb ub n w) := by
  obtain ⟨_, cap, rfl, hlc, hcm⟩ := hb.shape
  obtain ⟨blk, off, rfl, hblk, hj⟩ := hb.at_ (k := 0) (by omega)
  unfold maxLen at hcm
  have gm := hp.ne_map hm
  have um := hu.ne_map hm
  have gu := hp.ne_cells hu
  obtain ⟨K, hK⟩ : ∃ K, most b a = K := ⟨_, rfl⟩
  have hK4 : 4 ≤ K := by unfold most at hK; omega
  have hKa : a + K ≤ b.length := by unfold most at hK; omega
  have hK1 : K ≤ 131 := by unfold most at hK; omega
  have hmin : (if (131 : Int) < ((b.length - a : Nat) : Int) then (131 : Int) else ((b.length - a : Nat) : Int)) = (K : Int) := by unfold most at hK; split <;> omega
  have hmin2 : min ((b.length - a : Nat) : Int) 131 = (K : Int) := by unfold most at hK; omega
  have HL := Lib.hid (fun k => lift_any B g mb n a _ _ b D (w.drewN k) hp hb hB hm ha (by omega) hn h0)
  have hc0 := hp.bytes
  have hc2 := hp.under
  have i1 : (a : Int) ≤ (b.length : Int) := by omega
  have i2 : (a : Int) ≤ (cap : Int) := by omega
  have i3 : (a : Int) < (b.length : Int) := by omega
  have i4 : (K : Int) ≤ ((cap - a : Nat) : Int) := by omega
  have hcap : ¬ cap = a := by omega
  have t1 : decide (((b.length - a : Nat) : Int) < 4) = false := by simp; omega
  have t2 : decide (b.length - a < 4) = false := by simp; omega
  have hrem : (a : Int).tmod 65536 = (a : Int) := by rw [Int.tmod_eq_emod_of_nonneg (by omega)]; omega
  have hrem2 : (a : Int) % 65536 = (a : Int) := by omega
  obtain ⟨t, hrep, hold⟩ := hP.2 (four b a)
  obtain ⟨KEY, hKEY⟩ : ∃ KEY, four b a = KEY := ⟨_, rfl⟩
  have hput : topD (D.put (.string KEY) (.lit (.int .i32 (a : Int)))) = topped (topD D) KEY a := by
    obtain ⟨_, _, c0, c1, c2, c3, _, _, hkey, _⟩ := bin_four hb ha
    have hkey2 : four b a = [c0, c1, c2, c3] := hkey
    rw [← hKEY, hkey2]
    exact topD_put (World.ownsMap.isMap hm) (fourLaw.key (fourKey c0 c1 c2 c3)) a
  have hway := Way.start ha hP.1 hrep hold
  have hmatch := holds_match (t := t) (U := U) (lo := 2 * a) (hi := 2 * a + 1) ha (by omega) hold
  have hadd := hP.add ha hrep hold
  have hUl := hP.1
  rw [hKEY] at HL hadd hway
  rw [← hput] at hadd
  rw [Nat.mul_comm 2 a] at hmatch hadd hway
  obtain ⟨FIN, hFIN⟩ : ∃ F, go b a t U (a * 2) (a * 2 + 1) 0 0 = F := ⟨_, rfl⟩
  rw [hFIN] at hmatch hadd
  have HFIN := Lib.hid (fun (W : World) (h1 : MapAt W mb (n + 1) (D.put (.string KEY) (.lit (.int .i32 (a : Int))))) (h2 : UAt W ub FIN.1) (h3 : Kep (fun k => k ≠ mb ∧ k ≠ ub) w W) =>
    show AddLeft b a mb ub n w (.returned (.tuple #[.int .i64 ((FIN.2.1 : Nat) : Int), .int .i64 ((FIN.2.2 : Nat) : Int)])) W from ⟨n + 1, _, FIN.1, by rw [← hmatch], Nat.le_refl _, h1, h2, hadd, h3⟩)
  have H0 := Lib.hid hFIN
  have HW0 := Lib.hid hway
  have HK := Lib.hid hK
  have HLEN := Lib.hid hUl
  have HPW := Lib.hid (fun W (h : Kep (fun k => k ≠ mb) w W) => hp.kep h gm)
  have HUW := Lib.hid (fun W (h : Kep (fun k => k ≠ mb) w W) => hu.kep h um)
  have HBW := Lib.hid (fun W (h : Kep (fun k => k ≠ mb) w W) => hb.below (h.below hB (fun k hk => by omega)))
  unfold LiftLeft at HL
  generalize topD D KEY = cz at *
  generalize D.put (.string KEY) (.lit (.int .i32 (a : Int))) = D2 at *
  clear hj hp hb hm hu hP hK hrep hold hput hway hmatch hadd hFIN hKEY hUl h0
  go_enter Try.func19, Try.ntmps19
  go_wp2_with fail
  go_quiet (fail)
  go_wp2_with fail
  refine (HL.out nq).mono ?_
  rintro e w1 ⟨rfl, hm1, hk1⟩
  have hk : Kep (fun k => k ≠ mb) w w1 := ⟨hk1.os, hk1.tape, hk1.output, hk1.size, hk1.block⟩
  have HKW := Lib.hid hk
  have HM1 := Lib.hid hm1
  have HU1 := Lib.hid (HUW.out w1 hk)
  have hs1 := hk.size
  clear hk1 hk hm1 HL HUW hc0 hc2 t1 t2
  go_wp2_with fail
  go_loopw [4, 5, 7, 8, 9, 10, 11] (fun vs vd vlo vhi val var vc wr => ∃ (t : Tree) (c : Int) (V : List Int) (lo hi al ar s d : Nat), vs = .int .i64 s ∧ vd = .int .i64 d ∧ vlo = .pointer (some ⟨ub, lo, none⟩) ∧ vhi = .pointer (some ⟨ub, hi, none⟩) ∧ val = .int .i64 al ∧ var = .int .i64 ar ∧ vc = .int .i32 c ∧
    Hid (Way b a t c V lo hi al ar) ∧ Hid (go b a t V lo hi s d = FIN) ∧ Hid (V.length = 2 * b.length) ∧ Hid (UAt wr ub V) ∧ Hid (Kep (fun k => k ≠ ub) w1 wr)) (fun _ _ _ _ _ _ vc _ => (intOf vc + 65536).toNat)
  case atStart => exact ⟨t, cz, U, a * 2, a * 2 + 1, 4, 4, 0, 0, rfl, rfl, rfl, rfl, rfl, rfl, rfl, HW0, H0, HLEN, HU1, Lib.hid (Kep.refl _ _)⟩
  case round =>
    obtain ⟨t, c, V, lo, hi, al, ar, s, d, rfl, rfl, rfl, rfl, rfl, rfl, rfl, HW, HG, HV, HU, HKR⟩ := hrel
    clear H0 HW0 HU1 HLEN
    have hsr := HKR.out.size
    have hfree := fun i => HU.out.free i
    cases t with
    | leaf =>
      obtain rfl : c = -65536 := HW.out.rep
      have hg := HG.out
      unfold go at hg
      subst hg
      have hlo := HU.out.cell (List.getElem?_eq_getElem HW.out.loLt)
      have hhi := HU.out.cell (List.getElem?_eq_getElem HW.out.hiLt)
      generalize V[lo]'HW.out.loLt = xlo at *
      generalize V[hi]'HW.out.hiLt = xhi at *
      have ne := HW.out.ne
      have t1 : decide ((a : Int) - -65536 ≤ 65535) = false := by simp; omega
      have t2 : decide ((a : Int) + 65536 ≤ 65535) = false := by simp; omega
      have HE := Lib.hid (HFIN.out ((wr.setCell ⟨ub, lo, none⟩ (.int .i32 (-65536))).setCell ⟨ub, hi, none⟩ (.int .i32 (-65536))))
      have HU3 := Lib.hid ((HU.out.set lo (-65536)).set hi (-65536))
      have HK3 := Lib.hid ((HKR.out.trans (kep_set (S := fun k => k ≠ ub) (g := ub) (i := lo) (by simp) (.int .i32 (-65536)))).trans (kep_set (S := fun k => k ≠ ub) (g := ub) (i := hi) (by simp) (.int .i32 (-65536))))
      go_wp2_with fail
      go_ret2
      exact HE.out (HM1.out.kep HK3.out (Ne.symm um)) HU3.out ((HKW.out.mono (fun k h => h.1)).trans (HK3.out.mono (fun k h => h.2)))
    | node p l r =>
      obtain ⟨rfl, cl, cr, hcl, hcr, hrl, hrr, lcl, lcr, lpl, lpr, hpa, n1, n2, n3, n4⟩ := HW.out.cells
      have hal : a ≤ b.length := by omega
      have hknown := HW.out.known
      have hN := alike_most (Nat.le_of_lt hpa) hal
      have hNe := alike_counts (Nat.le_of_lt hpa) HK.out hKa
      have hg := HG.out
      unfold go at hg
      rw [HK.out] at hg hN
      have hright := fun (x : Unit) => HW.out.right hal hrr
      have hleft := fun (x : Unit) => HW.out.left hal hrl
      have hpart := alike_part (Nat.le_of_lt hpa) hal
      rw [HK.out] at hpart
      generalize alikeAt b p a = N at *
      have hpw := (HPW.out w1 HKW.out).kep HKR.out gu
      have hc0 := hpw.bytes
      have hc2 := hpw.under
      have hbw := (HBW.out w1 HKW.out).below (HKR.out.below (Nat.le_trans hB hs1) (fun k hk => by omega))
      have hcapp : ¬ cap = p := by omega
      have hbx := ((hbw.drop2 p (by omega)).2 hcapp).take K (by omega)
      have hby := ((hbw.drop2 a (by omega)).2 hcap).take K (by omega)
      obtain ⟨m, hm⟩ : ∃ m, min al ar = m := ⟨_, rfl⟩
      have hmK : m ≤ K := by have := HW.out.alK; rw [HK.out] at this; omega
      have hminm : min (al : Int) (ar : Int) = (m : Int) := by omega
      have hminm2 : (if ar < al then (ar : Int) else (al : Int)) = (m : Int) := by split <;> omega
      rw [hm] at hknown
      have hyl : ((b.drop a).take K).length = K := by rw [List.length_take, List.length_drop]; omega
      have hxl : ((b.drop p).take K).length = K := by rw [List.length_take, List.length_drop]; omega
      have htk : ((b.drop p).take K).take m = ((b.drop a).take K).take m := by
        rw [List.take_take, List.take_take, Nat.min_eq_left hmK]
        exact (take_same (by omega) (by omega)).2 hknown
      have hal2 := fun k => alike_go B _ _ _ _ m (wr.drewN k) hbx hby (Nat.le_trans (Nat.le_trans hB hs1) hsr) (by omega) (by omega) (by omega) htk (by omega)
      rw [hNe] at hal2
      have HAL := Lib.hid hal2
      -- the bytes that part, where they do
      have hcx : ∀ W, Below wr.heap.size wr W → ∀ i, p + i < b.length → W.cell? ⟨blk, off + p + i, none⟩ = some (.int .u8 ((at_ b (p + i) : Nat) : Int)) := fun W hW i hi => by
        rw [at_get hi, Nat.add_assoc]
        exact bin_get (hbw.below (hW.mono (by omega))) (List.getElem?_eq_getElem hi)
      have hcy : ∀ W, Below wr.heap.size wr W → ∀ i, a + i < b.length → W.cell? ⟨blk, off + a + i, none⟩ = some (.int .u8 ((at_ b (a + i) : Nat) : Int)) := fun W hW i hi => by
        rw [at_get hi, Nat.add_assoc]
        exact bin_get (hbw.below (hW.mono (by omega))) (List.getElem?_eq_getElem hi)
      have HCX := Lib.hid hcx
      have HCY := Lib.hid hcy
      have HG2 := Lib.hid hg
      have HRT := Lib.hid hright
      have HLT := Lib.hid hleft
      have HPT := Lib.hid hpart
      have t1 : decide ((a : Int) - (p : Int) ≤ 65535) = true := by simp; omega
      have j1 : (p : Int) ≤ (b.length : Int) := by omega
      have j2 : (p : Int) ≤ (cap : Int) := by omega
      have j3 : (p : Int) < (b.length : Int) := by omega
      have j4 : (K : Int) ≤ ((cap - p : Nat) : Int) := by omega
      have prem : (p : Int).tmod 65536 = (p : Int) := by rw [Int.tmod_eq_emod_of_nonneg (by omega)]; omega
      have prem2 : (p : Int) % 65536 = (p : Int) := by omega
      have j5 : (p : Int) ≤ (a : Int) := by omega
      clear hg hright hleft hpart hal2 hcx hcy htk hxl hyl hknown hNe hbx hby hbw hpw hm HG hrl hrr
      go_wp2_with fail
      go_quiet (fail)
      go_wp2_with fail
      refine (HAL.out nq).mono ?_
      rintro e w2 ⟨rfl, hb2⟩
      have hb2' : Below wr.heap.size wr w2 := ⟨hb2.os, hb2.tape, hb2.output, hb2.size, hb2.block⟩
      have HU2 := Lib.hid (HU.out.below hb2')
      have HK2 := Lib.hid (HKR.out.trans (kep_below _ hb2'))
      have e0 : w2.cell? ⟨ub, p * 2, none⟩ = some (.int .i32 cl) := by rw [Nat.mul_comm]; exact HU2.out.cell hcl
      have e1 : w2.cell? ⟨ub, p * 2 + 1, none⟩ = some (.int .i32 cr) := by rw [Nat.mul_comm]; exact HU2.out.cell hcr
      have hlo := HU2.out.cell (List.getElem?_eq_getElem HW.out.loLt)
      have hhi := HU2.out.cell (List.getElem?_eq_getElem HW.out.hiLt)
      generalize V[lo]'HW.out.loLt = xlo at *
      generalize V[hi]'HW.out.hiLt = xhi at *
      have hfree2 := fun i => HU2.out.free i
      have ne := HW.out.ne
      rw [Nat.mul_comm 2 p] at n1 n2 n3 n4
      have HB2 := Lib.hid hb2'
      clear hb2 hb2' HAL prem prem2 t1 hminm hminm2 hfree
      by_cases hs : s < N
      case' pos =>
        have t3 : decide ((N : Int) > (s : Int)) = true := by simp; omega
        have t4 : decide (s < N) = true := by simp; omega
        have HS := Lib.hid hs
        clear hs
      case' neg =>
        have t3 : decide ((N : Int) > (s : Int)) = false := by simp; omega
        have t4 : decide (s < N) = false := by simp; omega
        have HS := Lib.hid hs
        clear hs
      all_goals (
        by_cases hNK : N = K
        · have hg := HG2.out
          rw [if_pos hNK] at hg
          have t5 : ((N : Int) == (K : Int)) = true := by simp [hNK]
          have hgd0 : V.getD (2 * p) 0 = cl := by rw [List.getD_eq_getElem?_getD, hcl]; rfl
          have hgd1 : V.getD (2 * p + 1) 0 = cr := by rw [List.getD_eq_getElem?_getD, hcr]; rfl
          rw [hgd0, hgd1] at hg
          have hU3 := (HU2.out.set lo cl).set hi cr
          have hK3 := (HK2.out.trans (kep_set (S := fun k => k ≠ ub) (g := ub) (i := lo) (by simp) (.int .i32 cl))).trans (kep_set (S := fun k => k ≠ ub) (g := ub) (i := hi) (by simp) (.int .i32 cr))
          have hE := HFIN.out (((w2.setCell ⟨ub, lo, none⟩ (.int .i32 cl)).setCell ⟨ub, hi, none⟩ (.int .i32 cr)).drew) (HM1.out.kep hK3.drew (Ne.symm um)) (by rw [← hg]; exact hU3) ((HKW.out.mono (fun k h => h.1)).trans (hK3.drew.mono (fun k h => h.2)))
          rw [← hg] at hE
          have hss := HS.out
          simp only [hss, if_true, if_false] at hE
          have hap : ((a - p : Nat) : Int) = (a : Int) - (p : Int) := by omega
          first | rw [hap] at hE | skip
          have HE := Lib.hid hE
          clear hg hNK hU3 hK3 hE hss hgd0 hgd1 hap
          go_wp2_with fail
          go_region
          all_goals (
            go_wp2_with fail
            go_ret2
            exact HE.out)
        · have hg := HG2.out
          rw [if_neg hNK] at hg
          have t5 : ((N : Int) == (K : Int)) = false := by rw [beq_eq_false_iff_ne]; omega
          have hNlt : N < K := by omega
          have x0 := HCX.out w2 HB2.out N (by omega)
          have y0 := HCY.out w2 HB2.out N (by omega)
          have hpt := HPT.out hNK
          have hss := HS.out
          simp only [hss, if_true, if_false] at hg
          have j6 : (N : Int) < (K : Int) := by omega
          generalize at_ b (p + N) = u at *
          generalize at_ b (a + N) = v at *
          by_cases huv : u < v
          · rw [if_pos huv, Nat.mul_comm 2 p] at hg
            have t6 : decide ((u : Int) < (v : Int)) = true := by simp; omega
            have t7 : decide (u < v) = true := by simp; omega
            have HG3 := Lib.hid hg
            have hwr := HRT.out ()
            rw [Nat.mul_comm 2 p] at hwr
            have HW3 := Lib.hid hwr
            clear hg hwr hss hpt hNK huv HG2 HRT HLT
            go_wp2_with fail
            go_quiet (fail)
            obtain ⟨W, hW⟩ : ∃ W, w2.drewN nq = W := ⟨_, rfl⟩
            have HU3 := Lib.hid (show UAt W ub V by rw [← hW]; exact HU2.out)
            have HK3 := Lib.hid (show Kep (fun k => k ≠ ub) w1 W by rw [← hW]; exact HK2.out.drewN nq)
            rw [hW]
            clear hW x0 y0 e0 e1 hlo hhi hfree2
            have hlo := HU3.out.cell (List.getElem?_eq_getElem HW.out.loLt)
            generalize V[lo]'HW.out.loLt = xx at *
            have hfree3 := fun i => HU3.out.free i
            have e1 : W.cell? ⟨ub, p * 2 + 1, none⟩ = some (.int .i32 cr) := by rw [Nat.mul_comm]; exact HU3.out.cell hcr
            have HU4 := Lib.hid (HU3.out.set lo (p : Int))
            have HK4 := Lib.hid (HK3.out.trans (kep_set (S := fun k => k ≠ ub) (g := ub) (i := lo) (by simp) (.int .i32 (p : Int))))
            go_wp2_with fail
            go_roundw
            case rel =>
              have hap : Value.int .i64 ((a : Int) - (p : Int)) = Value.int .i64 ((a - p : Nat) : Int) := congrArg _ (by omega)
              first | exact ⟨r, cr, V.set lo (p : Int), p * 2 + 1, hi, N, ar, s, d, rfl, rfl, rfl, rfl, rfl, rfl, rfl, HW3, HG3, Lib.hid (by rw [List.length_set]; exact HV.out), HU4, HK4⟩ | exact ⟨r, cr, V.set lo (p : Int), p * 2 + 1, hi, N, ar, N, a - p, rfl, hap, rfl, rfl, rfl, rfl, rfl, HW3, HG3, Lib.hid (by rw [List.length_set]; exact HV.out), HU4, HK4⟩
            case measure => simp [intOf]; omega
          · rw [if_neg huv, Nat.mul_comm 2 p] at hg
            have t6 : decide ((u : Int) < (v : Int)) = false := by simp; omega
            have t7 : decide (u < v) = false := by simp; omega
            have HG3 := Lib.hid hg
            have hwr := HLT.out ()
            rw [Nat.mul_comm 2 p] at hwr
            have HW3 := Lib.hid hwr
            clear hg hwr hss hpt hNK huv HG2 HRT HLT
            go_wp2_with fail
            go_quiet (fail)
            obtain ⟨W, hW⟩ : ∃ W, w2.drewN nq = W := ⟨_, rfl⟩
            have HU3 := Lib.hid (show UAt W ub V by rw [← hW]; exact HU2.out)
            have HK3 := Lib.hid (show Kep (fun k => k ≠ ub) w1 W by rw [← hW]; exact HK2.out.drewN nq)
            rw [hW]
            clear hW x0 y0 e0 e1 hlo hhi hfree2
            have hhi := HU3.out.cell (List.getElem?_eq_getElem HW.out.hiLt)
            generalize V[hi]'HW.out.hiLt = xx at *
            have hfree3 := fun i => HU3.out.free i
            have e1 : W.cell? ⟨ub, p * 2, none⟩ = some (.int .i32 cl) := by rw [Nat.mul_comm]; exact HU3.out.cell hcl
            have HU4 := Lib.hid (HU3.out.set hi (p : Int))
            have HK4 := Lib.hid (HK3.out.trans (kep_set (S := fun k => k ≠ ub) (g := ub) (i := hi) (by simp) (.int .i32 (p : Int))))
            go_wp2_with fail
            go_roundw
            case rel =>
              have hap : Value.int .i64 ((a : Int) - (p : Int)) = Value.int .i64 ((a - p : Nat) : Int) := congrArg _ (by omega)
              first | exact ⟨l, cl, V.set hi (p : Int), lo, p * 2, al, N, s, d, rfl, rfl, rfl, rfl, rfl, rfl, rfl, HW3, HG3, Lib.hid (by rw [List.length_set]; exact HV.out), HU4, HK4⟩ | exact ⟨l, cl, V.set hi (p : Int), lo, p * 2, al, N, N, a - p, rfl, hap, rfl, rfl, rfl, rfl, rfl, HW3, HG3, Lib.hid (by rw [List.length_set]; exact HV.out), HU4, HK4⟩
            case measure => simp [intOf]; omega)
end Go.Proofs.Ytoohkhcmakcggaa.LZ
