/-
  GetAll, the code's and the reference's, SameInts: what the plain lists say. Condition: the bytes are fewer than 2^40.
-/
import Derived.Test.YtcekhkkombabfaaVarAll
set_option linter.unusedVariables false
namespace Go.Proofs.Ytcekhkkombabfaa.VG
open Go.RowKit Go.Proofs.Ytcekhkkombabfaa.MM Go.Proofs.Ytcekhkkombabfaa.VM Go.Proofs.Ytcekhkkombabfaa.VP

/-- So many whole numbers behind those that are gathered: they, what stands behind, the error's number. -/
def gaF : Nat → List Int → List UInt8 → List Int × List UInt8 × Int
  | 0, xs, l => (xs, l, 0)
  | m + 1, xs, l => if (getI l).2.2 ≠ 0 then ([], [], (getI l).2.2) else gaF m (xs ++ [(getI l).1]) (restL l)
def gaL (n : Int) (l : List UInt8) : List Int × List UInt8 × Int := if n < 0 then ([], [], 1) else gaF n.toNat [] l
theorem gaF_stop {m : Nat} {xs : List Int} {l : List UInt8} (h : (getI l).2.2 ≠ 0) : gaF (m + 1) xs l = ([], [], (getI l).2.2) := by rw [gaF, if_pos h]
theorem gaF_more {m : Nat} {xs : List Int} {l : List UInt8} (h : (getI l).2.2 = 0) : gaF (m + 1) xs l = gaF m (xs ++ [(getI l).1]) (restL l) := by rw [gaF, if_neg (by simp [h])]
theorem getI_cases (l : List UInt8) : (∃ x R, getI l = (x, (getI l).2.1, 0) ∧ restL l = R ∧ R.length + 1 ≤ l.length ∧ -9223372036854775808 ≤ x ∧ x ≤ 9223372036854775807) ∨ ((getI l).1 = 0 ∧ (getI l).2.2 = 6 ∧ restL l = []) ∨ ((getI l).1 = 0 ∧ (getI l).2.2 = 20 ∧ restL l = []) := by
  rcases getL_cases l with ⟨n, k, hg, hb, hk1, hk2⟩ | hg | hg
  · refine .inl ⟨(getI l).1, restL l, ?_, rfl, ?_, (getI_bounds l).1.1, (getI_bounds l).1.2⟩
    · unfold getI; rw [hg]
    · rw [restL_ok hg, List.length_drop]; omega
  · refine .inr (.inl ⟨?_, ?_, restL_short hg⟩)
    · unfold getI; rw [hg]; rfl
    · unfold getI; rw [hg]
  · refine .inr (.inr ⟨?_, ?_, restL_bad hg⟩)
    · unfold getI; rw [hg]; rfl
    · unfold getI; rw [hg]
/-- A row, a rest, an error's number. -/
def GotA (B : Nat) (res : List Int × List UInt8 × Int) (w : World) (e : Ending) (w' : World) : Prop :=
  ∃ va vr, e = .returned (.tuple #[va, vr, .int .i64 res.2.2]) ∧ IRow w' va res.1 ∧ BIn B w' vr res.2.1 ∧ Below w.heap.size w w'

set_option maxRecDepth 100000 in
set_option maxHeartbeats 2000000 in
theorem getall_in (B : Nat) (v : Value) (l : List UInt8) (n : Int) (w : World) (hr : BIn B w v l) (hB : B ≤ w.heap.size) (hlen : l.length ≤ 1099511627776) (h1 : n ≤ 9223372036854775807) :
    Calls Try.prog 23 #[v, .int .i64 n] w (GotA B (gaL n l) w) := by
  unfold gaL
  by_cases hneg : n < 0
  · rw [if_pos hneg]
    clear hr
    go_enter Try.func23, Try.ntmps23
    go_wp2_with fail
    go_ret3
    exact ⟨_, _, rfl, IRow.nil_ w, BIn.nil_ _ w, Below.refl _ _⟩
  · rw [if_neg hneg]
    obtain ⟨N, rfl⟩ := Int.eq_ofNat_of_zero_le (Int.not_lt.1 hneg)
    rw [Int.toNat_natCast]
    obtain ⟨res, hres⟩ : ∃ res, gaF N [] l = res := ⟨_, rfl⟩
    rw [hres]
    have HG0 : Hid (gaF (N - 0) [] l = res) := Lib.hid hres
    have HR0 := Lib.hid hr
    have HO0 := Lib.hid (OwnI.nil_ w.heap.size w)
    clear hr hres
    go_enter Try.func23, Try.ntmps23
    go_wp2_with fail
    go_loopw [4, 5, 12] (fun av rv i wr => ∃ (k : Nat) (xs : List Int) (m : List UInt8), k ≤ N ∧ i = .int .i64 k ∧ Hid (OwnI w.heap.size wr av xs) ∧ Hid (BIn B wr rv m) ∧ xs.length + m.length ≤ l.length ∧ Below w.heap.size w wr ∧ Hid (gaF (N - k) xs m = res)) (fun _ _ i _ => N - (intOf i).toNat)
    case atStart => exact ⟨0, [], l, Nat.zero_le _, rfl, HO0, HR0, by simp, Below.refl _ _, HG0⟩
    case round =>
      obtain ⟨k, xs, m, hk, rfl, HO, HR, hxl, hb, HG⟩ := hrel
      clear HO0 HR0 HG0
      have hsz := hb.size
      have hBw : B ≤ wr.heap.size := by omega
      by_cases hlt : k < N
      · have hlt' : (k : Int) < (N : Int) := by omega
        have hg := HG.out
        rw [show N - k = (N - (k + 1)) + 1 by omega] at hg
        have k1 := fun x W (h : BIn B W x m) hB => getint_in B x m W h hB
        rcases getI_cases m with ⟨x, R, hgi, hR, hRl, hx0, hx1⟩ | ⟨hx, he, hR⟩ | ⟨hx, he, hR⟩
        · have he : (getI m).2.2 = 0 := by rw [hgi]
          have hx : (getI m).1 = x := by rw [hgi]
          rw [gaF_more he, hx, hR] at hg
          rw [hx, he, hR] at k1
          have K1 := Lib.hid k1
          have HG2 := Lib.hid hg
          clear k1 hg HG hgi he hx hR
          go_wp2_with fail
          refine (K1.out _ _ HR.out hBw).mono ?_
          rintro e w1 ⟨v1, rfl, hrow, hb1⟩
          have HR1 := Lib.hid hrow
          have HO1 := Lib.hid (HO.out.keep hb1)
          have hb' := grow hb hb1
          have hsz1 := hb'.size
          clear hrow
          go_wp2_with (at_builtin; refine wpList_append_int rfl _ _ rfl w.heap.size _ xs w1 x rfl rfl HO1.out rfl (by omega) hsz1 ?_)
          intro v2 w2 hown2 hb2
          have HO2 := Lib.hid hown2
          have HR2 := Lib.hid (HR1.out.below (hb2.mono hB))
          clear hown2
          go_wp2_with fail
          go_roundw
          case rel => exact ⟨k + 1, xs ++ [x], R, by omega, by go_num, HO2, HR2, by rw [List.length_append, List.length_singleton]; omega, hb'.trans hb2, HG2⟩
          case measure => simp [intOf]; omega
        all_goals
          rw [gaF_stop (by rw [he]; decide), he] at hg
          rw [hx, he, hR] at k1
          have K1 := Lib.hid k1
          subst hg
          clear k1 HG he hx hR HO
          go_wp2_with fail
          refine (K1.out _ _ HR.out hBw).mono ?_
          rintro e w1 ⟨v1, rfl, hrow, hb1⟩
          have hb' := grow hb hb1
          clear hrow
          go_wp2_with fail
          go_ret3
          exact ⟨_, _, rfl, IRow.nil_ w1, BIn.nil_ _ w1, hb'⟩
      · obtain rfl : k = N := by omega
        have hg := HG.out
        rw [Nat.sub_self, gaF] at hg
        subst hg
        clear HG
        go_wp2_with fail
        go_ret3
        exact ⟨_, _, rfl, HO.out.irow, HR.out, hb⟩

set_option maxRecDepth 100000 in
set_option maxHeartbeats 2000000 in
theorem rgetall_in (B : Nat) (v : Value) (l : List UInt8) (n : Int) (w : World) (hr : BIn B w v l) (hB : B ≤ w.heap.size) (hlen : l.length ≤ 1099511627776) (h1 : n ≤ 9223372036854775807) :
    Calls Try.prog 24 #[v, .int .i64 n] w (GotA B (gaL n l) w) := by
  unfold gaL
  by_cases hneg : n < 0
  · rw [if_pos hneg]
    clear hr
    go_enter Try.func24, Try.ntmps24
    go_wp2_with fail
    go_ret3
    exact ⟨_, _, rfl, IRow.nil_ w, BIn.nil_ _ w, Below.refl _ _⟩
  · rw [if_neg hneg]
    obtain ⟨N, rfl⟩ := Int.eq_ofNat_of_zero_le (Int.not_lt.1 hneg)
    rw [Int.toNat_natCast]
    obtain ⟨res, hres⟩ : ∃ res, gaF N [] l = res := ⟨_, rfl⟩
    rw [hres]
    have HG0 : Hid (gaF (N - 0) [] l = res) := Lib.hid hres
    have HR0 := Lib.hid hr
    have HO0 := Lib.hid (OwnI.nil_ w.heap.size w)
    clear hr hres
    go_enter Try.func24, Try.ntmps24
    go_wp2_with fail
    go_loopw [0, 7, 8] (fun rv av i wr => ∃ (k : Nat) (xs : List Int) (m : List UInt8), k ≤ N ∧ i = .int .i64 k ∧ Hid (OwnI w.heap.size wr av xs) ∧ Hid (BIn B wr rv m) ∧ xs.length + m.length ≤ l.length ∧ Below w.heap.size w wr ∧ Hid (gaF (N - k) xs m = res)) (fun _ _ i _ => N - (intOf i).toNat)
    case atStart => exact ⟨0, [], l, Nat.zero_le _, rfl, HO0, HR0, by simp, Below.refl _ _, HG0⟩
    case round =>
      obtain ⟨k, xs, m, hk, rfl, HO, HR, hxl, hb, HG⟩ := hrel
      clear HO0 HR0 HG0
      have hsz := hb.size
      have hBw : B ≤ wr.heap.size := by omega
      by_cases hlt : k < N
      · have hlt' : (k : Int) < (N : Int) := by omega
        have hg := HG.out
        rw [show N - k = (N - (k + 1)) + 1 by omega] at hg
        have k1 := fun x W (h : BIn B W x m) hB => rgetint_in B x m W h hB
        rcases getI_cases m with ⟨x, R, hgi, hR, hRl, hx0, hx1⟩ | ⟨hx, he, hR⟩ | ⟨hx, he, hR⟩
        · have he : (getI m).2.2 = 0 := by rw [hgi]
          have hx : (getI m).1 = x := by rw [hgi]
          rw [gaF_more he, hx, hR] at hg
          rw [hx, he, hR] at k1
          have K1 := Lib.hid k1
          have HG2 := Lib.hid hg
          clear k1 hg HG hgi he hx hR
          go_wp2_with fail
          refine (K1.out _ _ HR.out hBw).mono ?_
          rintro e w1 ⟨v1, rfl, hrow, hb1⟩
          have HR1 := Lib.hid hrow
          have HO1 := Lib.hid (HO.out.keep hb1)
          have hb' := grow hb hb1
          have hsz1 := hb'.size
          clear hrow
          go_wp2_with (at_builtin; refine wpList_append_int rfl _ _ rfl w.heap.size _ xs w1 x rfl rfl HO1.out rfl (by omega) hsz1 ?_)
          intro v2 w2 hown2 hb2
          have HO2 := Lib.hid hown2
          have HR2 := Lib.hid (HR1.out.below (hb2.mono hB))
          clear hown2
          go_wp2_with fail
          go_roundw
          case rel => exact ⟨k + 1, xs ++ [x], R, by omega, by go_num, HO2, HR2, by rw [List.length_append, List.length_singleton]; omega, hb'.trans hb2, HG2⟩
          case measure => simp [intOf]; omega
        all_goals
          rw [gaF_stop (by rw [he]; decide), he] at hg
          rw [hx, he, hR] at k1
          have K1 := Lib.hid k1
          subst hg
          clear k1 HG he hx hR HO
          go_wp2_with fail
          refine (K1.out _ _ HR.out hBw).mono ?_
          rintro e w1 ⟨v1, rfl, hrow, hb1⟩
          have hb' := grow hb hb1
          clear hrow
          go_wp2_with fail
          go_ret3
          exact ⟨_, _, rfl, IRow.nil_ w1, BIn.nil_ _ w1, hb'⟩
      · obtain rfl : k = N := by omega
        have hg := HG.out
        rw [Nat.sub_self, gaF] at hg
        subst hg
        clear HG
        go_wp2_with fail
        go_ret3
        exact ⟨_, _, rfl, HO.out.irow, HR.out, hb⟩

/-! ### SameInts -/
set_option maxRecDepth 100000 in
set_option maxHeartbeats 1000000 in
theorem same_any (u v : Value) (zs : List Int) (w : World) (hu : IRow w u zs) (hv : IRow w v zs) :
    Calls Try.prog 27 #[u, v] w fun e w' => e = .returned (.bool true) ∧ Below w.heap.size w w' := by
  obtain ⟨p, cp, rfl, hp1, hp2⟩ := hu.shape
  obtain ⟨q, cq, rfl, hq1, hq2⟩ := hv.shape
  unfold maxLen at hp2 hq2
  have HP := Lib.hid hu
  have HQ := Lib.hid hv
  clear hu hv
  go_enter Try.func27, Try.ntmps27
  go_wp2_with fail
  go_loopw [5] (fun i wr => ∃ k : Nat, k ≤ zs.length ∧ i = .int .i64 k ∧ Below w.heap.size w wr) (fun i _ => zs.length - (intOf i).toNat)
  case atStart => exact ⟨0, Nat.zero_le _, rfl, Below.refl _ _⟩
  case round =>
    obtain ⟨k, hk, rfl, hb⟩ := hrel
    by_cases hlt : k < zs.length
    · obtain ⟨b, off, rfl, hbl, hcell⟩ := (HP.out.below hb).at_ hlt
      obtain ⟨b2, off2, rfl, hbl2, hcell2⟩ := (HQ.out.below hb).at_ hlt
      obtain ⟨r, hr⟩ : ∃ r, zs.getD k 0 = r := ⟨_, rfl⟩
      rw [hr] at hcell hcell2
      have hltz : (k : Int) < (zs.length : Int) := by omega
      clear hr
      go_wp2_with fail
      go_quiet (fail)
      go_wp2_with fail
      go_roundw
      case rel => exact ⟨k + 1, by omega, by go_num, below_drewN hb _⟩
      case measure => simp [intOf]; omega
    · obtain rfl : k = zs.length := by omega
      go_wp2_with fail
      go_ret
      exact ⟨rfl, hb⟩
end Go.Proofs.Ytcekhkkombabfaa.VG
