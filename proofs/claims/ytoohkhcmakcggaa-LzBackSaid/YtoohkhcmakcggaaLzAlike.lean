/-
  The code's alike: how many bytes two slices of one length have in common from their first on. Condition: they hold bytes, below 2^40 of them.
-/
import Derived.Test.YtoohkhcmakcggaaMem
import Derived.Test.YtoohkhcmakcggaaLzMath
import Derived.Laws.Cover3
set_option linter.unusedVariables false
namespace Go.Proofs.Ytoohkhcmakcggaa.LZ
open Go.RowKit Go.Proofs.Ytoohkhcmakcggaa.MM

theorem eq_eight (a0 a1 a2 a3 a4 a5 a6 a7 b0 b1 b2 b3 b4 b5 b6 b7 : Int) (w : World) : (Op.equalIn 10000 70 (.agg #[.int .u8 a0, .int .u8 a1, .int .u8 a2, .int .u8 a3, .int .u8 a4, .int .u8 a5, .int .u8 a6, .int .u8 a7]) (.agg #[.int .u8 b0, .int .u8 b1, .int .u8 b2, .int .u8 b3, .int .u8 b4, .int .u8 b5, .int .u8 b6, .int .u8 b7])).run Try.prog w = .ok (a0 == b0 && (a1 == b1 && (a2 == b2 && (a3 == b3 && (a4 == b4 && (a5 == b5 && (a6 == b6 && a7 == b7))))))) w := by
  have ux := Try.underlying5
  have ax := Try.isAgg5
  have zx := Try.sizeOf5
  rw [show (10000 : Nat) = 9999 + 1 from rfl, Op.equalIn]
  simp only [Sem.run_bind, run_underlying Try.underlying70, Result.andThen_ok]
  simp only [Std.Legacy.Range.forIn_eq_forIn_range', Std.Legacy.Range.size, Nat.sub_zero, Nat.add_sub_cancel, Nat.div_one, List.range'_succ, List.range'_zero, List.forIn_cons, List.forIn_nil]
  go_simp
  by_cases h0 : a0 = b0
  · by_cases h1 : a1 = b1
    · by_cases h2 : a2 = b2
      · by_cases h3 : a3 = b3
        · by_cases h4 : a4 = b4
          · by_cases h5 : a5 = b5
            · by_cases h6 : a6 = b6
              · by_cases h7 : a7 = b7 <;> simp [h0, h1, h2, h3, h4, h5, h6, h7]
              · simp [h0, h1, h2, h3, h4, h5, h6]
            · simp [h0, h1, h2, h3, h4, h5]
          · simp [h0, h1, h2, h3, h4]
        · simp [h0, h1, h2, h3]
      · simp [h0, h1, h2]
    · simp [h0, h1]
  · simp [h0]

theorem eight_of {l : List UInt8} (h : 8 ≤ l.length) : ∃ c0 c1 c2 c3 c4 c5 c6 c7 l', l = c0 :: c1 :: c2 :: c3 :: c4 :: c5 :: c6 :: c7 :: l' := by
  match l, h with
  | c0 :: c1 :: c2 :: c3 :: c4 :: c5 :: c6 :: c7 :: l', _ => exact ⟨c0, c1, c2, c3, c4, c5, c6, c7, l', rfl⟩
theorem bin_get {B : Nat} {w : World} {b off n cap : Nat} {l : List UInt8} (h : BIn B w (.slice (some ⟨b, off, none⟩) n cap) l) {k : Nat} {c : UInt8} (hk : l[k]? = some c) : w.cell? ⟨b, off + k, none⟩ = some (.int .u8 (c.toNat : Int)) := by
  obtain ⟨hlt, he⟩ := List.getElem?_eq_some_iff.1 hk
  obtain ⟨b', off', hp, _, hc⟩ := h.at_ hlt
  simp only [Option.some.injEq, Addr.mk.injEq] at hp
  obtain ⟨rfl, rfl, _⟩ := hp
  rw [he] at hc
  exact hc
/-- Eight bytes from a place on. -/
theorem bin_eight {B : Nat} {w : World} {b off n cap : Nat} {l : List UInt8} (h : BIn B w (.slice (some ⟨b, off, none⟩) n cap) l) {k : Nat} (hk : k + 8 ≤ l.length) :
    ∃ c0 c1 c2 c3 c4 c5 c6 c7 : UInt8, (l.drop k).take 8 = [c0, c1, c2, c3, c4, c5, c6, c7] ∧ w.cell? ⟨b, off + k, none⟩ = some (.int .u8 (c0.toNat : Int)) ∧ w.cell? ⟨b, off + k + 1, none⟩ = some (.int .u8 (c1.toNat : Int)) ∧
      w.cell? ⟨b, off + k + 2, none⟩ = some (.int .u8 (c2.toNat : Int)) ∧ w.cell? ⟨b, off + k + 3, none⟩ = some (.int .u8 (c3.toNat : Int)) ∧ w.cell? ⟨b, off + k + 4, none⟩ = some (.int .u8 (c4.toNat : Int)) ∧
      w.cell? ⟨b, off + k + 5, none⟩ = some (.int .u8 (c5.toNat : Int)) ∧ w.cell? ⟨b, off + k + 6, none⟩ = some (.int .u8 (c6.toNat : Int)) ∧ w.cell? ⟨b, off + k + 7, none⟩ = some (.int .u8 (c7.toNat : Int)) := by
  obtain ⟨c0, c1, c2, c3, c4, c5, c6, c7, l', hl⟩ := eight_of (l := l.drop k) (by rw [List.length_drop]; omega)
  have g : ∀ i c, (l.drop k)[i]? = some c → w.cell? ⟨b, off + (k + i), none⟩ = some (.int .u8 (c.toNat : Int)) := fun i c hi => bin_get h (by rw [List.getElem?_drop] at hi; exact hi)
  rw [hl] at g
  refine ⟨c0, c1, c2, c3, c4, c5, c6, c7, by rw [hl]; rfl, ?_, ?_, ?_, ?_, ?_, ?_, ?_, ?_⟩
  · exact g 0 _ rfl
  · exact g 1 _ rfl
  · exact g 2 _ rfl
  · exact g 3 _ rfl
  · exact g 4 _ rfl
  · exact g 5 _ rfl
  · exact g 6 _ rfl
  · exact g 7 _ rfl

set_option maxRecDepth 100000 in
set_option maxHeartbeats 4000000 in
theorem alike_go (B : Nat) (vx vy : Value) (x y : List UInt8) (n : Nat) (w : World) (hx : BIn B w vx x) (hy : BIn B w vy y) (hB : B ≤ w.heap.size) (hl : x.length = y.length) (h0 : 0 < y.length) (hn : n ≤ y.length) (ht : x.take n = y.take n) (hb : y.length ≤ 1000000000000) :
    Calls Try.prog 26 #[vx, vy, .int .i64 n] w fun e w' => e = .returned (.int .i64 (alikeL y.length x y)) ∧ Below w.heap.size w w' := by
  obtain ⟨_, capx, rfl, hcx, hmx⟩ := hx.shape
  obtain ⟨_, capy, rfl, hcy, hmy⟩ := hy.shape
  obtain ⟨bx, offx, rfl, hbx, hjx⟩ := hx.at_ (k := 0) (by omega)
  obtain ⟨by_, offy, rfl, hby, hjy⟩ := hy.at_ (k := 0) (by omega)
  unfold maxLen at hmx hmy
  obtain ⟨M, hM⟩ : ∃ M, alikeL y.length x y = M := ⟨_, rfl⟩
  rw [hM]
  have HM := Lib.hid hM
  have HX := Lib.hid hx
  have HY := Lib.hid hy
  have H0 := Lib.hid ht
  obtain ⟨L, hL⟩ : ∃ L, y.length = L := ⟨_, rfl⟩
  have hLx : x.length = L := hl.trans hL
  rw [hL] at hn hb h0 hcy
  rw [hLx] at hcx
  rw [hLx, hL]
  rw [hLx] at HX
  rw [hL] at HY HM
  have HL := Lib.hid hL
  have HLX := Lib.hid hLx
  clear hjx hjy
  clear hx hy ht hM hl hL hLx
  go_enter Try.func26, Try.ntmps26
  go_wp2_with fail
  go_loopw [2] (fun nv wr => ∃ n : Nat, n ≤ L ∧ nv = .int .i64 n ∧ Hid (x.take n = y.take n) ∧ Hid (Below w.heap.size w wr)) (fun nv _ => L - (intOf nv).toNat)
  case atStart => exact ⟨n, hn, rfl, H0, Lib.hid (Below.refl _ _)⟩
  case round =>
    obtain ⟨k, hk, rfl, HT, HB⟩ := hrel
    clear H0
    have hXr := HX.out.below (HB.out.mono hB)
    have hYr := HY.out.below (HB.out.mono hB)
    by_cases h8 : k + 8 ≤ L
    case' pos =>
      have t1 : decide ((L : Int) - (k : Int) ≥ 8) = true := by simp; omega
      obtain ⟨c0, c1, c2, c3, c4, c5, c6, c7, hc, x0, x1, x2, x3, x4, x5, x6, x7⟩ := bin_eight hXr (k := k) (by rw [HLX.out]; exact h8)
      obtain ⟨d0, d1, d2, d3, d4, d5, d6, d7, hd, y0, y1, y2, y3, y4, y5, y6, y7⟩ := bin_eight hYr (k := k) (by rw [HL.out]; exact h8)
      have hatx : ∀ W, (Instr.arrayAt 70 (.slice (some ⟨bx, offx + k, none⟩) (L - k) (capx - k))).run Try.prog W = .ok (.pointer (some ⟨bx, offx + k, none⟩)) W := fun W => run_arrayAt W 70 _ 8 _ _ _ Try.underlying70 (by omega)
      have haty : ∀ W, (Instr.arrayAt 70 (.slice (some ⟨by_, offy + k, none⟩) (L - k) (capy - k))).run Try.prog W = .ok (.pointer (some ⟨by_, offy + k, none⟩)) W := fun W => run_arrayAt W 70 _ 8 _ _ _ Try.underlying70 (by omega)
      have hcx1 : ¬ capx = k := by omega
      have hcy1 : ¬ capy = k := by omega
      have i1 : (k : Int) ≤ (L : Int) := by omega
      have i2 : (k : Int) ≤ (capx : Int) := by omega
      have i3 : (k : Int) ≤ (capy : Int) := by omega
      have heq := eq_eight c0.toNat c1.toNat c2.toNat c3.toNat c4.toNat c5.toNat c6.toNat c7.toNat d0.toNat d1.toNat d2.toNat d3.toNat d4.toNat d5.toNat d6.toNat d7.toNat
      obtain ⟨Z, hZ⟩ : ∃ Z, ((c0.toNat : Int) == (d0.toNat : Int) && ((c1.toNat : Int) == (d1.toNat : Int) && ((c2.toNat : Int) == (d2.toNat : Int) && ((c3.toNat : Int) == (d3.toNat : Int) && ((c4.toNat : Int) == (d4.toNat : Int) && ((c5.toNat : Int) == (d5.toNat : Int) && ((c6.toNat : Int) == (d6.toNat : Int) && (c7.toNat : Int) == (d7.toNat : Int)))))))) = Z := ⟨_, rfl⟩
      rw [hZ] at heq
      have HSAME : Hid (Z = true → x.take (k + 8) = y.take (k + 8)) := Lib.hid (fun hz => by
        rw [hz] at hZ
        simp only [Bool.and_eq_true, beq_iff_eq, Int.natCast_inj, UInt8.toNat_inj] at hZ
        obtain ⟨rfl, rfl, rfl, rfl, rfl, rfl, rfl, rfl⟩ := hZ
        rw [List.take_add, List.take_add, HT.out, hc, hd])
      clear hZ hc hd
      generalize c0.toNat = c0 at *
      generalize c1.toNat = c1 at *
      generalize c2.toNat = c2 at *
      generalize c3.toNat = c3 at *
      generalize c4.toNat = c4 at *
      generalize c5.toNat = c5 at *
      generalize c6.toNat = c6 at *
      generalize c7.toNat = c7 at *
      generalize d0.toNat = d0 at *
      generalize d1.toNat = d1 at *
      generalize d2.toNat = d2 at *
      generalize d3.toNat = d3 at *
      generalize d4.toNat = d4 at *
      generalize d5.toNat = d5 at *
      generalize d6.toNat = d6 at *
      generalize d7.toNat = d7 at *
      clear hXr hYr
      cases Z
      case' true =>
        have HS := Lib.hid (HSAME.out rfl)
        clear HSAME
        go_wp2_with fail
        go_quiet (fail)
        go_wp2_with fail
        go_roundw
        case rel => exact ⟨k + 8, h8, by go_num, HS, Lib.hid (below_drewN HB.out _)⟩
        case measure => simp [intOf]; omega
      case' false =>
        clear HSAME
        go_wp2_with fail
        go_quiet (fail)
        have HBW := Lib.hid (below_drewN HB.out nq)
        generalize wr.drewN nq = W at *
        clear x0 x1 x2 x3 x4 x5 x6 x7 y0 y1 y2 y3 y4 y5 y6 y7 heq hatx haty t1 i1 i2 i3 hcx1 hcy1
    case' neg =>
      have t1 : decide ((L : Int) - (k : Int) ≥ 8) = false := by simp; omega
      clear hXr hYr
      go_wp2_with fail
      go_quiet (fail)
      have HBW := Lib.hid (below_drewN HB.out nq)
      generalize wr.drewN nq = W at *
      clear t1
    all_goals (
      clear HB
      go_wp2_with fail
      go_loopw [2] (fun nv wr => ∃ n : Nat, n ≤ L ∧ nv = .int .i64 n ∧ Hid (x.take n = y.take n) ∧ Hid (Below w.heap.size w wr)) (fun nv _ => L - (intOf nv).toNat)
      case atStart => exact ⟨k, hk, rfl, HT, HBW⟩
      case round =>
        obtain ⟨m, hm, rfl, HTm, HB⟩ := hrel
        clear HT HBW
        have hXr := HX.out.below (HB.out.mono hB)
        have hYr := HY.out.below (HB.out.mono hB)
        by_cases hmL : m = L
        · have he := alikeL_stop (k := L) HTm.out hm (by rw [HLX.out]; exact hm) (by rw [HL.out]; exact hm) (.inl hmL)
          obtain rfl : m = M := he.symm.trans HM.out
          have t1 : decide ((m : Int) < (L : Int)) = false := by simp; omega
          have t2 : decide (m < L) = false := by simp; omega
          clear he hmL hXr hYr
          go_wp2_with fail
          go_quiet (fail)
          go_wp2_with fail
          go_ret
          exact ⟨rfl, below_drewN HB.out nq⟩
        · have t1 : decide ((m : Int) < (L : Int)) = true := by simp; omega
          have t2 : decide (m < L) = true := by simp; omega
          have i1 : (m : Int) < (L : Int) := by omega
          have i2 : m < L := by omega
          have hmx : m < x.length := by rw [HLX.out]; omega
          have hmy : m < y.length := by rw [HL.out]; omega
          have x0 := bin_get hXr (List.getElem?_eq_getElem hmx)
          have y0 := bin_get hYr (List.getElem?_eq_getElem hmy)
          by_cases heq : x[m] = y[m]
          · have hnext : x.take (m + 1) = y.take (m + 1) := by rw [List.take_succ_eq_append_getElem hmx, List.take_succ_eq_append_getElem hmy, HTm.out, heq]
            rw [heq] at x0
            generalize y[m].toNat = q at *
            have t3 : ((q : Int) == (q : Int)) = true := by simp
            have HN := Lib.hid hnext
            clear heq hnext hmx hmy hXr hYr
            go_wp2_with fail
            go_quiet (fail)
            go_wp2_with fail
            go_roundw
            case rel => exact ⟨m + 1, by omega, by go_num, HN, Lib.hid (below_drewN HB.out _)⟩
            case measure => simp [intOf]; omega
          · have he := alikeL_stop (k := L) HTm.out hm (by omega) (by omega) (.inr (.inr (.inr ⟨hmx, hmy, heq⟩)))
            obtain rfl : m = M := he.symm.trans HM.out
            have t3 : ((x[m].toNat : Int) == (y[m].toNat : Int)) = false := by
              rw [beq_eq_false_iff_ne]
              intro h
              exact heq (UInt8.toNat_inj.1 (by omega))
            generalize x[m].toNat = q1 at *
            generalize y[m].toNat = q2 at *
            clear heq he hmx hmy hXr hYr
            go_wp2_with fail
            go_quiet (fail)
            go_wp2_with fail
            go_ret
            exact ⟨rfl, below_drewN HB.out nq⟩)
end Go.Proofs.Ytoohkhcmakcggaa.LZ
