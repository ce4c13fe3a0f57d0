/-
  slices.Grow of no bytes, slices.Concat of rows of bytes. Conditions: fewer than 10^12 bytes, fewer than a million rows. An event's bytes behind others: the code's Put. Condition: the others are fewer than 10^9 bytes. An event's bytes: the reference's. Conditions: 16 fields, texts of 4096 bytes at most.
-/
import Derived.Test.YtgacfihidpijeaaZD2
import Derived.Test.YtgacfihidpijeaaZD16
import Derived.Lib.AppendZeros
import Derived.Test.YtgacfihidpijeaaZD15
set_option linter.unusedVariables false
namespace Go.Proofs.Ytgacfihidpijeaa.MM
open Go Go.RowKit Go.Proofs.Ytgacfihidpijeaa.VP

/-- A slice of slices of bytes. -/
def LRow (w : World) (v : Value) (ls : List (List UInt8)) : Prop := ∃ xs, Row w v xs ∧ xs.length = ls.length ∧ ∀ i (h : i < ls.length), ∃ x, xs[i]? = some x ∧ BRow w x ls[i]
theorem LRow.below {w w' : World} {v : Value} {ls : List (List UInt8)} (h : LRow w v ls) (hb : Below w.heap.size w w') : LRow w' v ls := by
  obtain ⟨xs, hr, hl, hx⟩ := h
  refine ⟨xs, Row.below (B := 0) hr hb, hl, fun i hi => ?_⟩
  obtain ⟨x, h1, h2⟩ := hx i hi
  exact ⟨x, h1, h2.below hb⟩
theorem LRow.shape {w : World} {v : Value} {ls : List (List UInt8)} (h : LRow w v ls) : ∃ p cap, v = .slice p ls.length cap ∧ ls.length ≤ cap ∧ cap ≤ maxLen := by
  obtain ⟨xs, ⟨p, cap, hv, h1, h2, _, _⟩, hl, _⟩ := h
  rw [hl] at hv h1
  exact ⟨p, cap, hv, h1, h2⟩
theorem LRow.at_ {w : World} {p : Option Addr} {n cap : Nat} {ls : List (List UInt8)} (h : LRow w (.slice p n cap) ls) {k : Nat} (hk : k < ls.length) :
    ∃ b off x, p = some ⟨b, off, none⟩ ∧ w.cell? ⟨b, off + k, none⟩ = some x ∧ BRow w x ls[k] := by
  obtain ⟨xs, ⟨p', cap', hv, _, _, _, h⟩, hl, hx⟩ := h
  simp only [Value.slice.injEq] at hv
  obtain ⟨rfl, _, _⟩ := hv
  obtain ⟨x, h1, h2⟩ := hx k hk
  rcases h with h | ⟨b, off, hp, hlt, hc⟩
  · rw [h] at h1; simp at h1
  · exact ⟨b, off, x, hp, hc k _ h1, h2⟩
/-- A literal row: one block with these slices. -/
theorem lrow_lit {w : World} (xs : List Value) (ls : List (List UInt8)) (hl : xs.length = ls.length) (hm : xs.length ≤ maxLen) (h : ∀ i (h : i < ls.length), ∃ x, xs[i]? = some x ∧ BRow w x ls[i]) :
    LRow (w.alloc (.cells xs.toArray 40)) (.slice (some ⟨w.heap.size, 0, none⟩) xs.length xs.length) ls := by
  have hb : Below w.heap.size w (w.alloc (.cells xs.toArray 40)) := (Below.refl _ _).alloc (Nat.le_refl _) _
  refine ⟨xs, ⟨some ⟨w.heap.size, 0, none⟩, xs.length, rfl, Nat.le_refl _, hm, (fun h => by cases h), .inr ⟨w.heap.size, 0, rfl, by simp, fun i u hi => ?_⟩⟩, hl, fun i hi => ?_⟩
  · rw [cell_of_row _ w.heap.size _ _ _ _ (heap_alloc_new _ _)]
    simpa using hi
  · obtain ⟨x, h1, h2⟩ := h i hi
    exact ⟨x, h1, h2.below hb⟩
theorem lrow_two {w : World} {v u : Value} {l m : List UInt8} (h : BRow w v l) (k : BRow w u m) : LRow (w.alloc (.cells #[v, u] 40)) (.slice (some ⟨w.heap.size, 0, none⟩) 2 2) [l, m] :=
  lrow_lit [v, u] [l, m] rfl (by unfold maxLen; simp) (fun i hi => by
    match i, hi with
    | 0, _ => exact ⟨v, rfl, h⟩
    | 1, _ => exact ⟨u, rfl, k⟩)
theorem flat_next {ls : List (List UInt8)} {k : Nat} (hk : k < ls.length) : (ls.take (k + 1)).flatten = (ls.take k).flatten ++ ls[k] := by
  rw [List.take_succ_eq_append_getElem hk, List.flatten_append]
  simp
theorem flat_take_le (ls : List (List UInt8)) (k : Nat) : (ls.take k).flatten.length ≤ ls.flatten.length := by
  have h : ls.flatten = (ls.take k).flatten ++ (ls.drop k).flatten := by rw [← List.flatten_append, List.take_append_drop]
  rw [h, List.length_append]
  omega

set_option maxRecDepth 100000 in
set_option maxHeartbeats 1000000 in
theorem ggrow_any (n : Nat) (w : World) (hn : n ≤ 1000000000000) : Calls Try.prog 65 #[.slice none 0 0, .int .i64 n] w (PutLeft w.heap.size [] w) := by
  have q1 : decide ((n : Int) < 0) = false := decide_eq_false (by omega)
  have q2 : IntKind.i64.wrap ((n : Int) - 0) = (n : Int) := by rw [IntKind.wrap_i64]; omega
  have q3 : wrap64 (n : Int) = (n : Int) := by unfold wrap64; omega
  by_cases h0 : n = 0
  · subst h0
    have HF := Lib.hid (show PutLeft w.heap.size [] w (.returned (.slice none 0 0)) w from ⟨_, rfl, World.ownsRow_nil _ _ _ _, Below.refl _ _⟩)
    go_enter Try.func65, Try.ntmps65
    go_wp2_with fail
    go_ret
    exact HF.out
  · have q4 : decide ((n : Int) > 0) = true := decide_eq_true (by omega)
    obtain ⟨i0, hi, hz0, hz1, hz2⟩ := info_parts infoByte
    have hr := fun ty => Lib.run_append_nil_zeros (P := Try.prog) w 40 3 ty 5 i0 (.int .u8 0) .i64 .i64 Try.underlying40 Try.underlying3 hi hz0 n (by omega) (by omega) (by omega) (by rw [hz2]; omega)
    obtain ⟨G, hG⟩ : ∃ G, grownCap w n 0 5 = G := ⟨_, rfl⟩
    have hGn : n ≤ G := by rw [← hG]; exact grownCap_ge w _ _ _
    have hGm : G ≤ maxLen := by rw [← hG]; exact grownCap_le_maxLen w n 0 5 (by unfold maxLen; omega)
    rw [hG] at hr
    obtain ⟨w1, hw1⟩ : ∃ w1, w.drew.alloc (.cells (Builtin.zeroCells (Value.int .u8 0).cells n ++ Builtin.zeroCells (Value.int .u8 0).cells (G - n)) 5) = w1 := ⟨_, rfl⟩
    rw [hw1] at hr
    have hb : Below w.heap.size w w1 := by rw [← hw1]; exact ((Below.refl _ w).drew).alloc (Nat.le_refl _) _
    have hown : OwnB w.heap.size w1 (.slice (some ⟨w.heap.size, 0, none⟩) 0 G) [] := by
      refine ⟨rfl, .inr ⟨w.heap.size, G, Builtin.zeroCells (Value.int .u8 0).cells n ++ Builtin.zeroCells (Value.int .u8 0).cells (G - n), rfl, Nat.le_refl _, ?_, Nat.zero_le _, hGm, ?_, rfl⟩⟩
      · rw [← hw1]; exact heap_alloc_new _ _
      · simp [Builtin.zeroCells, Value.cells]
        omega
    have HF := Lib.hid (show PutLeft w.heap.size [] w (.returned (.slice (some ⟨w.heap.size, 0, none⟩) 0 G)) w1 from ⟨_, rfl, hown, hb⟩)
    have HR := Lib.hid hr
    unfold maxLen at hGm
    have q5 : (0 : Int) ≤ (G : Int) := by omega
    clear hown hb hr hw1 hG hi hz0 hz1 hz2
    go_enter Try.func65, Try.ntmps65
    go_wp2_with (at_builtin; go_loud (refine Lib.wpList_append_run w rfl _ _ _ _ rfl _ _ rfl rfl _ _ (HR.out _) ?_))
    go_ret
    exact HF.out

set_option maxRecDepth 100000 in
set_option maxHeartbeats 1000000 in
theorem concat_any (v : Value) (ls : List (List UInt8)) (w : World) (h : LRow w v ls) (hlen : ls.flatten.length ≤ 1000000000000) :
    Calls Try.prog 43 #[v] w (PutLeft w.heap.size ls.flatten w) := by
  obtain ⟨p, cap, rfl, hlc, hcm⟩ := h.shape
  unfold maxLen at hcm
  have HR := Lib.hid h
  have HL := Lib.hid (flat_take_le ls)
  obtain ⟨F, hF⟩ : ∃ F : Nat → Nat, ∀ k, F k = (ls.take k).flatten.length := ⟨fun k => (ls.take k).flatten.length, fun _ => rfl⟩
  have HF := Lib.hid hF
  have hF0 : F 0 = 0 := by rw [hF]; simp
  clear h hF
  go_enter Try.func43, Try.ntmps43
  go_wp2_with fail
  go_loopw [3, 11] (fun sv iv wr => ∃ k : Nat, k ≤ ls.length ∧ iv = .int .i64 k ∧ sv = .int .i64 (F k) ∧ w = wr) (fun _ iv _ => ls.length - (intOf iv).toNat)
  case atStart => exact ⟨0, by omega, rfl, by rw [hF0]; rfl, rfl⟩
  case round =>
    obtain ⟨k, hk, rfl, rfl, rfl⟩ := hrel
    by_cases hlt : k < ls.length
    · have q1 : decide ((k : Int) < (ls.length : Int)) = true := by rw [decide_eq_true_eq]; omega
      have q2 : decide (k < ls.length) = true := by rw [decide_eq_true_eq]; omega
      have q3 : (k : Int) < (ls.length : Int) := by omega
      obtain ⟨b, off, x, rfl, hc, hx⟩ := HR.out.at_ hlt
      obtain ⟨px, cx, rfl, _⟩ := hx.shape
      have hnx := congrArg List.length (flat_next hlt)
      rw [List.length_append, ← HF.out, ← HF.out] at hnx
      have hle := HL.out (k + 1)
      rw [← HF.out] at hle
      obtain ⟨m, hm⟩ : ∃ m, ls[k].length = m := ⟨_, rfl⟩
      rw [hm] at hnx hc
      have q4 : wrap64 ((F k : Int) + (m : Int)) = (F (k + 1) : Int) := by rw [IntWalk.wrap64_in _ ⟨by omega, by omega⟩]; omega
      have q5 : decide ((F (k + 1) : Int) < 0) = false := decide_eq_false (Int.not_lt.2 (Int.natCast_nonneg _))
      have HLT := Lib.hid hlt
      clear hx hnx hm
      go_wp2_with fail
      have hlt := HLT.out
      go_roundw
      case rel => exact ⟨k + 1, by omega, by go_num, by first | trivial | rfl | rw [q4], by first | trivial | rfl⟩
      case measure => simp [intOf]; omega
    · obtain rfl : k = ls.length := by omega
      have q1 : decide ((ls.length : Int) < (ls.length : Int)) = false := by simp
      have q2 : decide (ls.length < ls.length) = false := by simp
      have hFT := HF.out ls.length
      rw [List.take_length] at hFT
      have HG := Lib.hid (ggrow_any (F ls.length) w (by rw [hFT]; exact hlen))
      clear hFT
      clear hlt
      go_wp2_with fail
      refine HG.out.mono ?_
      rintro e w1 ⟨v1, rfl, ho1, hb1⟩
      have HO0 : Hid (OwnB w.heap.size w1 v1 (ls.take 0).flatten) := Lib.hid (by simpa using ho1)
      have HB1 := Lib.hid hb1
      clear ho1 hb1 HG
      go_wp2_with fail
      go_loopw [6, 27] (fun bv iv w2 => ∃ k : Nat, k ≤ ls.length ∧ iv = .int .i64 k ∧ Hid (OwnB w.heap.size w2 bv (ls.take k).flatten) ∧ Hid (Below w.heap.size w w2)) (fun _ iv _ => ls.length - (intOf iv).toNat)
      case atStart => exact ⟨0, by omega, rfl, HO0, HB1⟩
      case round =>
        obtain ⟨k, hk, rfl, HOk, HBk⟩ := hrel
        clear HO0 HB1
        by_cases hlt : k < ls.length
        · have q1 : decide ((k : Int) < (ls.length : Int)) = true := by rw [decide_eq_true_eq]; omega
          have q2 : decide (k < ls.length) = true := by rw [decide_eq_true_eq]; omega
          have q3 : (k : Int) < (ls.length : Int) := by omega
          obtain ⟨b, off, x, rfl, hc, hx⟩ := (LRow.below HR.out HBk.out).at_ hlt
          have hnx := flat_next hlt
          obtain ⟨m, hm⟩ : ∃ m, ls[k] = m := ⟨_, rfl⟩
          rw [hm] at hnx hx
          have hle := HL.out (k + 1)
          rw [hnx, List.length_append] at hle
          have HNX := Lib.hid hnx
          have HX := Lib.hid hx
          have HLT := Lib.hid hlt
          clear hx hnx hm
          go_wp2_with (at_builtin; go_loud (refine wpList_append_bytes rfl _ _ rfl w.heap.size _ (ls.take k).flatten rfl HOk.out _ m rfl HX.out (by omega) HBk.out.size ?_; intro v4 w4 ho4 hb4; rw [← HNX.out] at ho4; have HO4 := Lib.hid ho4; have HB4 := Lib.hid (HBk.out.trans hb4); clear ho4 hb4))
          have hlt := HLT.out
          go_roundw
          case rel => exact ⟨k + 1, by omega, by go_num, HO4, HB4⟩
          case measure => simp [intOf]; omega
        · obtain rfl : k = ls.length := by omega
          have q1 : decide ((ls.length : Int) < (ls.length : Int)) = false := by simp
          have q2 : decide (ls.length < ls.length) = false := by simp
          have ho := HOk.out
          rw [List.take_length] at ho
          have HO9 := Lib.hid ho
          clear hlt ho
          go_wp2_with fail
          go_ret
          exact ⟨_, rfl, HO9.out, HBk.out⟩
end Go.Proofs.Ytgacfihidpijeaa.MM
set_option linter.unusedVariables false
namespace Go.Proofs.Ytgacfihidpijeaa.EV
open Go Go.RowKit Go.Proofs.Ytgacfihidpijeaa.MM Go.Proofs.Ytgacfihidpijeaa.EM Go.Proofs.Ytgacfihidpijeaa.VM Go.Proofs.Ytgacfihidpijeaa.GB
open Go.Proofs.Ytgacfihidpijeaa.VP

/-- What Put is. -/
def putB (l : List UInt8) (e : Ev) : List UInt8 := if checkE e = 0 then l ++ bytesE e else []
/-- A row of bytes and an error's number. -/
def CodeLeft (l : List UInt8) (x : Int) (w : World) (e : Ending) (w' : World) : Prop := ∃ v, e = .returned (.tuple #[v, .int .i64 x]) ∧ OwnB w.heap.size w' v l ∧ Below w.heap.size w w'
theorem own_none (B : Nat) (w : World) : OwnB B w (.slice none 0 0) [] := World.ownsRow_nil _ _ _ _
theorem low_grown {w w' : World} {v' : Value} (h : Grown w w' (.slice none 0 0) v') : Below w.heap.size w w' ∧ ∀ k, v'.ownBlock = some k → w.heap.size ≤ k :=
  ⟨h.kep.below (Nat.le_refl _) (fun k _ e => by cases e), fun k hk => (h.2 k hk).elim (fun e => by cases e) id⟩

set_option maxRecDepth 100000 in
set_option maxHeartbeats 1000000 in
theorem cput_any (v : Value) (l : List UInt8) (z : Int) (u : Value) (fs : List Fld) (w : World) (hv : BRow w v l) (hl : l.length ≤ 1000000000) (hr : RAny fldC w u fs) (h0 : -9223372036854775808 ≤ z) (h1 : z ≤ 9223372036854775807) :
    Calls Try.prog 26 #[v, .agg #[.int .i64 z, u]] w (CodeLeft (putB l (z, fs)) (checkE (z, fs)) w) := by
  obtain ⟨pv, cv, rfl, _⟩ := hv.shape
  have hbx := box_below w z u
  have HC := Lib.hid (check_any z u fs _ (RAny.below hr hbx))
  obtain ⟨L, hL⟩ : ∃ L, putB l (z, fs) = L := ⟨_, rfl⟩
  obtain ⟨c, hc⟩ : ∃ c, checkE (z, fs) = c := ⟨_, rfl⟩
  rw [hc] at HC
  rw [hL, hc]
  have HR := Lib.hid hr
  have HV := Lib.hid hv
  by_cases hz : c = 0
  · subst hz
    have hok := (checkE_ok.1 hc)
    have h16 : fs.length ≤ 16 := hok.1
    have hx : ∀ f ∈ fs, f.1.length ≤ 4096 ∧ f.2.length ≤ 4096 := fun f hf => ⟨Nat.le_trans (name_len (hok.2 f hf).1) (by omega), (hok.2 f hf).2⟩
    have hLe : L = l ++ bytesE (z, fs) := by rw [← hL]; unfold putB; rw [if_pos hc]
    have hfl := fits fs.length [] fs z h16 hx (by simp) fs.length
    have hbl : (bytesE (z, fs)).length ≤ 1001000000 := by
      rw [List.take_length, List.nil_append] at hfl
      exact hfl
    have HA := Lib.hid (fun W (h : RAny fldC W u fs) => appe_any (.slice none 0 0) [] z u fs W (own_none 0 W) (h.weak fun b _ _ e => by cases e) h0 h1 h16 hx (by simp))
    have HBL := Lib.hid hbl
    have HLE := Lib.hid hLe
    clear hr hv hok hx hLe hfl hbl hc hbx hL
    go_enter Try.func26, Try.ntmps26
    go_wp2_with fail
    refine HC.out.mono ?_
    rintro e w1 ⟨rfl, hb1⟩
    obtain ⟨c0, c1, hb01⟩ := box_in hb1
    have HB1 := Lib.hid hb01
    have HA1 := Lib.hid (HA.out _ (RAny.below HR.out hb01))
    clear hb1 hb01 HA HC
    go_wp2_with fail
    refine HA1.out.mono ?_
    rintro e w2 ⟨v2, rfl, ho2, hg2⟩
    obtain ⟨hb2, hk2⟩ := low_grown hg2
    rw [List.nil_append] at ho2
    have hb02 := HB1.out.trans (hb2.mono HB1.out.size)
    have HB2 := Lib.hid hb02
    have HRow := Lib.hid (lrow_two (HV.out.below hb02) ho2.brow)
    obtain ⟨p2, c2, rfl, _⟩ := ho2.brow.shape
    clear ho2 hg2 hb2 hk2 hb02 HA1
    go_wp2_with fail
    have HQ := Lib.hid (concat_any _ [l, bytesE (z, fs)] _ HRow.out (by simp; have := HBL.out; omega))
    refine HQ.out.mono ?_
    rintro e w3 ⟨v3, rfl, ho3, hb3⟩
    have ho3' : OwnB w.heap.size w3 v3 L := by
      rw [HLE.out]
      have := OwnB.weaken ho3 (B' := w.heap.size) (Nat.le_trans HB2.out.size (by simp))
      simpa using this
    have HO3 := Lib.hid ho3'
    have HB3 := Lib.hid ((HB2.out.alloc HB2.out.size _).trans (hb3.mono (Nat.le_trans HB2.out.size (by simp))))
    clear ho3 hb3 ho3' HQ
    go_wp2_with fail
    go_ret2
    exact ⟨_, rfl, HO3.out, HB3.out⟩
  · have t0 : (c != 0) = true := by rw [bne_iff_ne]; exact hz
    have hLe : L = [] := by rw [← hL]; unfold putB; rw [if_neg (by rw [hc]; exact hz)]
    subst hLe
    clear hr hv hL hc hbx
    go_enter Try.func26, Try.ntmps26
    go_wp2_with fail
    refine HC.out.mono ?_
    rintro e w1 ⟨rfl, hb1⟩
    obtain ⟨c0, c1, hb01⟩ := box_in hb1
    have HB1 := Lib.hid hb01
    clear hb1 hb01 HC
    go_wp2_with fail
    go_ret2
    exact ⟨_, rfl, own_none _ _, HB1.out⟩
end Go.Proofs.Ytgacfihidpijeaa.EV
set_option linter.unusedVariables false
namespace Go.Proofs.Ytgacfihidpijeaa.EV
open Go Go.RowKit Go.Proofs.Ytgacfihidpijeaa.MM Go.Proofs.Ytgacfihidpijeaa.EM Go.Proofs.Ytgacfihidpijeaa.VM Go.Proofs.Ytgacfihidpijeaa.GB
open Go.Proofs.Ytgacfihidpijeaa.VP

theorem rtext0 (t : List UInt8) (ht : t.length ≤ 4096) (W : World) : Calls Try.prog 47 #[.string ⟨t.toArray⟩] W (PutLeft W.heap.size (textL t) W) := by
  have h := rtext_any ⟨t.toArray⟩ W (by rw [str_sz]; omega)
  rw [str_list] at h
  exact h
theorem grown_low {B : Nat} {wr w' : World} {u u' : Value} {L L' : List UInt8} (hB : B ≤ wr.heap.size) (ho : OwnB B wr u L) (hg : Grown wr w' u u') (ho' : OwnB 0 w' u' L') : OwnB B w' u' L' ∧ Below B wr w' := by
  have h1 : ∀ k, u.ownBlock = some k → B ≤ k := fun k hk => (World.ownsRow.lt ho k hk).1
  refine ⟨OwnB.from ho' fun k hk => ?_, hg.kep.below hB fun k hk e => by have := h1 k e; omega⟩
  rcases hg.2 k hk with e | e
  · exact h1 k e
  · omega

set_option maxRecDepth 100000 in
set_option maxHeartbeats 1000000 in
theorem rbytese_any (z : Int) (u : Value) (fs : List Fld) (w : World) (hr : RAny fldC w u fs) (h0 : -9223372036854775808 ≤ z) (h1 : z ≤ 9223372036854775807) (h16 : fs.length ≤ 16) (hx : ∀ f ∈ fs, f.1.length ≤ 4096 ∧ f.2.length ≤ 4096) :
    Calls Try.prog 27 #[.agg #[.int .i64 z, u]] w (PutLeft w.heap.size (bytesE (z, fs)) w) := by
  have hmx : Try.prog.follows .mixedOrders = true := by kernel_rfl
  obtain ⟨p, cap, rfl, hlc, hcm, _⟩ := hr.shape
  unfold maxLen at hcm
  obtain ⟨wb, hwb⟩ : ∃ wb, evBox w z (.slice p fs.length cap) = wb := ⟨_, rfl⟩
  have hbx := box_below w z (.slice p fs.length cap)
  have hszb := box_size w z (.slice p fs.length cap)
  have hin := fun W (h : Below wb.heap.size wb W) => box_in (w := w) (wr := W) (z := z) (v := .slice p fs.length cap) (by rw [hwb]; exact h)
  rw [hwb] at hbx hszb
  have HLN := Lib.hid (fits fs.length [] fs z h16 hx (by simp))
  have HX := Lib.hid hx
  have HR := Lib.hid hr
  have HBX := Lib.hid hbx
  have HIN := Lib.hid hin
  have HWB := Lib.hid hwb
  have HEND : Hid (intL z ++ bytesL fs.length ++ bytesF (fs.take fs.length) = bytesE (z, fs)) := Lib.hid (by rw [List.take_length]; unfold bytesE; simp)
  clear hr hx hbx hin
  go_enter Try.func27, Try.ntmps27
  go_wp2_with fail
  refine RK.begin_ (T := fun k => k < wb.heap.size) [(0, true), (1, true), (3, true), (4, true), (5, true), (6, true), (2, false), (7, false), (8, false), (9, true)] (by kernel_rfl) (by kernel_rfl) rfl (by kernel_rfl) (fun _ _ d _ _ h => by cases d <;> exact h) ?_
  simp only [RK.ordered, List.map_cons, List.map_nil, List.getElem?_toArray, List.getElem?_cons_succ, List.getElem?_cons_zero]
  change RK.walk _ _ _ _ _ _ (evBox w z (.slice p fs.length cap)).drew
  rw [HWB.out]
  obtain ⟨wd, hwd⟩ : ∃ wd, wb.drew = wd := ⟨_, rfl⟩
  have hbd : Below wb.heap.size wb wd := by rw [← hwd]; exact (Below.refl _ _).drew
  have hcc := HIN.out _ hbd
  have hsd := hbd.size
  have G := Lib.hid (fun W (hW : Kep (fun k => k < wb.heap.size) wd W) => (show W.cell? ⟨w.heap.size, 0, none⟩ = some (.int .i64 z) ∧ W.cell? ⟨w.heap.size, 1, none⟩ = some (.slice p fs.length cap) from
    ⟨(hW.cell (by omega) (by omega) 0).trans hcc.1, (hW.cell (by omega) (by omega) 1).trans hcc.2.1⟩))
  have HBD := Lib.hid hbd
  have HSZ := Lib.hid hszb
  clear hszb
  rw [hwd]
  clear hwd hbd hcc
  repeat (refine RK.take (by rfl) (by intro W hW; obtain ⟨f1, f2⟩ := G.out W hW; go_simp; with_reducible rfl) ?_; simp only [Act.put, List.setIfInBounds_toArray, List.set_cons_zero, List.set_cons_succ])
  have K1 := Lib.hid (rint_any z wd h0 h1)
  refine RK.alone (by rfl) (fun K hK => ?_)
  go_simp
  refine K1.out.mono ?_
  rintro e w1 ⟨v1, rfl, ho1, hb1⟩
  go_simp
  refine hK.out _ _ (kep_below _ hb1) ?_
  clear hK K K1
  have hs1 : wb.heap.size ≤ w1.heap.size := Nat.le_trans hsd hb1.size
  have HO1 := Lib.hid (OwnB.weaken ho1 hsd)
  have HB1 := Lib.hid (HBD.out.trans (hb1.mono hsd))
  clear ho1 hb1
  have K2 := Lib.hid (rbytes_any fs.length w1 (by omega))
  refine RK.alone (by rfl) (fun K hK => ?_)
  go_simp
  rw [show IntKind.u64.wrap (fs.length : Int) = (fs.length : Int) by rw [IntKind.wrap_u64]; omega]
  refine K2.out.mono ?_
  rintro e w2 ⟨v2, rfl, ho2, hb2⟩
  go_simp
  refine hK.out _ _ (kep_below _ hb2) ?_
  clear hK K K2
  have hs2 : wb.heap.size ≤ w2.heap.size := Nat.le_trans hs1 hb2.size
  have HO2 := Lib.hid (HO1.out.keep hb2)
  have HO3 := Lib.hid ho2
  have HB2 := Lib.hid (HB1.out.trans (hb2.mono hs1))
  clear ho2 hb2
  refine RK.alone (by rfl) (fun K hK => ?_)
  refine wp_append_grown _ _ rfl v1 (intL z) rfl (GB.OwnB.zero HO2.out) _ (bytesL fs.length) rfl HO3.out.brow (bytesL_ne _) (by have := HLN.out 0; simp only [List.length_append] at this; omega) ?_
  intro v3 w3 ho3 hg3
  refine hK.out _ _ (hg3.kep.mono fun k hk e => absurd (World.ownsRow.lt HO2.out k e).1 (Nat.not_le.2 hk)) ?_
  clear hK K
  obtain ⟨ho4, hb4⟩ := grown_low hs2 HO2.out hg3 ho3
  have HO4 : Hid (OwnB wb.heap.size w3 v3 (intL z ++ bytesL fs.length ++ bytesF (fs.take 0))) := Lib.hid (by rw [show intL z ++ bytesL fs.length ++ bytesF (fs.take 0) = intL z ++ bytesL fs.length by simp [EM.bytesF]]; exact ho4)
  have HB4 := Lib.hid (HB2.out.trans hb4)
  clear ho3 hg3 ho4 hb4 HO1 HO2 HO3 HB1 HB2
  repeat (refine RK.take (by rfl) (by intro W hW; go_simp; with_reducible rfl) ?_; simp only [Act.put, List.setIfInBounds_toArray, List.set_cons_zero, List.set_cons_succ])
  refine RK.done ?_
  clear G hsd HBD hs1 hs2
  go_wp2_with fail
  go_loopw [3, 4] (fun bv iv wr => ∃ k : Nat, k ≤ fs.length ∧ iv = .int .i64 k ∧ Hid (OwnB wb.heap.size wr bv (intL z ++ bytesL fs.length ++ bytesF (fs.take k))) ∧ Hid (Below wb.heap.size wb wr)) (fun _ iv _ => fs.length - (intOf iv).toNat)
  case atStart => exact ⟨0, by omega, rfl, HO4, HB4⟩
  case round =>
    obtain ⟨k, hk, rfl, HOk, HBk⟩ := hrel
    clear HO4 HB4
    obtain ⟨d0, d1, hbw⟩ := HIN.out _ HBk.out
    have hsr := HBk.out.size
    by_cases hlt : k < fs.length
    · have q1 : decide ((k : Int) < (fs.length : Int)) = true := by rw [decide_eq_true_eq]; omega
      have q2 : decide (k < fs.length) = true := by rw [decide_eq_true_eq]; omega
      have q3 : (k : Int) < (fs.length : Int) := by omega
      obtain ⟨b, off, rfl, hbl, _, c1, c2⟩ := fld_at HR.out hlt
      have e1 := (hbw.cell (p := ⟨b, off + k * 2, none⟩) hbl).trans c1
      have HC2 := Lib.hid c2
      have hxk := HX.out fs[k] (List.getElem_mem hlt)
      have hnx := bytesF_next hlt
      have hll := HLN.out (k + 1)
      rw [hnx, List.nil_append] at hll
      generalize fs[k].1 = nm at *
      generalize fs[k].2 = tx at *
      have hn2 : intL z ++ bytesL fs.length ++ bytesF (fs.take (k + 1)) = intL z ++ bytesL fs.length ++ bytesF (fs.take k) ++ textL nm ++ textL tx := by rw [hnx]; simp
      obtain ⟨L, hL⟩ : ∃ L, intL z ++ bytesL fs.length ++ bytesF (fs.take k) = L := ⟨_, rfl⟩
      have hlen : (L ++ textL nm ++ textL tx).length ≤ 1001000000 := by rw [← hL]; simp only [List.length_append] at hll ⊢; omega
      rw [hL] at hn2
      have ho := HOk.out
      rw [hL] at ho
      have HOL0 := Lib.hid ho
      have HN2 := Lib.hid hn2
      have HT1 := Lib.hid (rtext0 nm hxk.1 wr)
      have HT2 := Lib.hid (fun W => rtext0 tx hxk.2 W)
      have HLT := Lib.hid hlt
      have HBW := Lib.hid hbw
      clear hnx hll hL ho hn2 HOk hlt c1 c2 hbw
      go_wp2_with fail
      refine HT1.out.mono ?_
      rintro e w5 ⟨v5, rfl, ho5, hb5⟩
      have HO5 := Lib.hid ho5
      have HV5 := Lib.hid (HOL0.out.keep hb5)
      have hb15 := HBk.out.trans (hb5.mono hsr)
      have HB5 := Lib.hid hb15
      have hsr5 := hb15.size
      clear ho5 hb5 hb15 HT1 HBk d0 d1 e1 HBW HOL0
      go_wp2_with (at_builtin; go_loud (refine wpList_append_bytes rfl _ _ rfl wb.heap.size u3 L rfl HV5.out _ (textL nm) rfl HO5.out.brow (by simp only [List.length_append] at hlen; omega) hsr5 ?_; intro v6 w6 ho6 hb6; have HO6 := Lib.hid ho6; have hb16 := HB5.out.trans hb6; have HB6 := Lib.hid hb16; have hsr6 := hb16.size; obtain ⟨d0, d1, hbw⟩ := HIN.out _ hb16; have e2 := (hbw.cell (p := ⟨b, off + k * 2 + 1, none⟩) hbl).trans HC2.out; clear ho6 hb6 hb16 hbw))
      refine (HT2.out _).mono ?_
      rintro e w7 ⟨v7, rfl, ho7, hb7⟩
      have HO7 := Lib.hid ho7
      have HV7 := Lib.hid (HO6.out.keep hb7)
      have hb17 := HB6.out.trans (hb7.mono hsr6)
      have HB7 := Lib.hid hb17
      have hsr7 := hb17.size
      clear ho7 hb7 hb17 HT2 d0 d1 e2 HO6 HB6 HB5 HO5 HV5
      go_wp2_with (at_builtin; go_loud (refine wpList_append_bytes rfl _ _ rfl wb.heap.size v6 (L ++ textL nm) rfl HV7.out _ (textL tx) rfl HO7.out.brow (by simp only [List.length_append] at hlen; simp only [List.length_append]; omega) hsr7 ?_; intro v8 w8 ho8 hb8; rw [← HN2.out] at ho8; have HO8 := Lib.hid ho8; have HB8 := Lib.hid (HB7.out.trans hb8); clear ho8 hb8))
      have hlt := HLT.out
      go_roundw
      case rel => exact ⟨k + 1, by omega, by go_num, HO8, HB8⟩
      case measure => simp [intOf]; omega
    · obtain rfl : k = fs.length := by omega
      have q1 : decide ((fs.length : Int) < (fs.length : Int)) = false := by simp
      have q2 : decide (fs.length < fs.length) = false := by simp
      have ho := HOk.out
      rw [HEND.out] at ho
      have HO9 := Lib.hid (OwnB.weaken ho (show w.heap.size ≤ wb.heap.size by rw [HSZ.out]; exact Nat.le_succ _))
      have HB9 := Lib.hid hbw
      clear HOk ho hlt hbw d0
      go_wp2_with fail
      go_ret
      exact ⟨_, rfl, HO9.out, HB9.out⟩
end Go.Proofs.Ytgacfihidpijeaa.EV
