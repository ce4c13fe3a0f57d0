/-
  The four laws of layer 1 return true. Conditions: the arguments read as data; the two tables of unicode/utf8 hold what their initialisers lay.
-/
import Derived.Test.YtnbnlmckmhoceaaDoorUtfAwake
set_option linter.unusedVariables false
namespace Go.Proofs.YtnbnlmckmhoceaaDoor.UM
open Go.RowKit

set_option maxRecDepth 100000 in
set_option maxHeartbeats 1000000 in
theorem tells_walk (r : Int) (s : ByteArray) (w : World) (hs : s.size ≤ maxLen) (hT : Lib.Utf8Tabs 0 1 w) :
    Calls Tryd.prog 4 #[.int .i64 r, .string s] w fun e w' => e = .returned (.bool true) ∧ Below w.heap.size w w' := by
  have HT := Lib.hid hT
  have hcut := cut_any s w hs
  have hz := cutS_size s
  obtain ⟨t, ht⟩ : ∃ t, cutS s = t := ⟨_, rfl⟩
  rw [ht] at hcut hz
  have hz2 : t.size ≤ 1000000 := by omega
  obtain ⟨L, hL⟩ : ∃ L, lowerZ r = L := ⟨_, rfl⟩
  obtain ⟨Wd, hWd⟩ : ∃ Wd, wordZ r = Wd := ⟨_, rfl⟩
  obtain ⟨F, hF⟩ : ∃ F : ByteArray, (⟨(foldL t.data.toList).toArray⟩ : ByteArray) = F := ⟨_, rfl⟩
  obtain ⟨V, hV⟩ : ∃ V, Lib.validD t.data.toList = V := ⟨_, rfl⟩
  have k1 := fun W => lower_any r W
  have k2 := fun W => rlower_any r W
  have k3 := fun W => word_any r W
  have k4 := fun W => rword_any r W
  have k5 := fun W => fold_any t W hz2
  have k6 := fun W => rfold_any t W hz2
  have k7 := fun W h => valid_any t W hz2 h
  have k8 := fun W => rvalid_any t W hz2
  simp only [hL] at k1 k2
  simp only [hWd] at k3 k4
  simp only [hF] at k5 k6
  simp only [hV] at k7 k8
  have K0 := Lib.hid hcut
  have K1 := Lib.hid k1
  have K2 := Lib.hid k2
  have K3 := Lib.hid k3
  have K4 := Lib.hid k4
  have K5 := Lib.hid k5
  have K6 := Lib.hid k6
  have K7 := Lib.hid k7
  have K8 := Lib.hid k8
  clear hT hcut k1 k2 k3 k4 k5 k6 k7 k8 hL hWd hF hV ht hz hz2 hs
  go_enter Tryd.func4, Tryd.ntmps4
  go_wp2_with fail
  refine K0.out.mono ?_
  rintro e w0 ⟨rfl, rfl⟩
  go_wp2_with fail
  refine (K1.out _).mono ?_
  rintro e w1 ⟨rfl, b1⟩
  go_wp2_with fail
  refine (K2.out _).mono ?_
  rintro e w2 ⟨rfl, rfl⟩
  go_wp2_with fail
  refine (K3.out _).mono ?_
  rintro e w3 ⟨rfl, b3⟩
  have c3 := grow b1 b3
  go_wp2_with fail
  refine (K4.out _).mono ?_
  rintro e w4 ⟨rfl, rfl⟩
  go_wp2_with fail
  refine (K5.out _).mono ?_
  rintro e w5 ⟨rfl, b5⟩
  have c5 := grow c3 b5
  go_wp2_with fail
  refine (K6.out _).mono ?_
  rintro e w6 ⟨rfl, b6⟩
  have c6 := grow c5 b6
  go_wp2_with fail
  refine (K7.out _ (Utf8Tabs_below HT.out c6)).mono ?_
  rintro e w7 ⟨rfl, b7⟩
  have c7 := grow c6 b7
  go_wp2_with fail
  refine (K8.out _).mono ?_
  rintro e w8 ⟨rfl, b8⟩
  have c8 := grow c7 b8
  go_wp2_with fail
  refine (awake_any _ (Utf8Tabs_below HT.out c8)).mono ?_
  rintro e w9 ⟨rfl, b9⟩
  have c9 := grow c8 b9
  go_wp2
  go_ret
  exact ⟨rfl, c9⟩

/-! ### UtfFolds -/
def RunesLen (n : Nat) (w : World) (e : Ending) (w' : World) : Prop := ∃ p cap, e = .returned (.slice p n cap) ∧ Below w.heap.size w w'
theorem runes_len (s : ByteArray) (n : Nat) (w : World) (hs : s.size ≤ 1000000) (hn : (runesL s.data.toList).length = n) : Calls Tryd.prog 11 #[.string s] w (RunesLen n w) := by
  refine (runes_any s w hs).mono fun e w' h => ?_
  obtain ⟨v, rfl, hown, hb⟩ := h
  obtain ⟨p, cap, rfl, _⟩ := hown.shape
  exact ⟨p, cap, by rw [hn], hb⟩
theorem width_four (s : ByteArray) (pos : Nat) : (Utf8.decode s pos).2 ≤ 4 := by
  rw [Lib.decode_at]
  unfold Lib.decodeN
  (repeat' split) <;> simp
theorem fold_size (t : ByteArray) (h : t.size ≤ 2000) : (⟨(foldL t.data.toList).toArray⟩ : ByteArray).size ≤ 1000000 := by
  have h1 := encL_length ((runesL t.data.toList).map lowerZ)
  have h2 := runesL_length t.data.toList
  rw [← Lib.size_eq] at h2
  rw [List.length_map] at h1
  show (foldL t.data.toList).toArray.size ≤ _
  unfold foldL
  rw [List.size_toArray]
  omega

set_option maxRecDepth 100000 in
set_option maxHeartbeats 2000000 in
theorem folds_walk (s : ByteArray) (w : World) (hs : s.size ≤ maxLen) (hT : Lib.Utf8Tabs 0 1 w) :
    Calls Tryd.prog 6 #[.string s] w fun e w' => e = .returned (.bool true) ∧ Below w.heap.size w w' := by
  have HT := Lib.hid hT
  have hcut := cut_any s w hs
  have hz := cutS_size s
  obtain ⟨t, ht⟩ : ∃ t, cutS s = t := ⟨_, rfl⟩
  rw [ht] at hcut hz
  have hz2 : t.size ≤ 1000000 := by omega
  have hfz := fold_size t hz
  obtain ⟨n, hn⟩ : ∃ n, (runesL t.data.toList).length = n := ⟨_, rfl⟩
  have k1 := fun W => fold_any t W hz2
  have k2 := fun W => fold_any ⟨(foldL t.data.toList).toArray⟩ W hfz
  have k3 := fun W h => valid_any ⟨(foldL t.data.toList).toArray⟩ W hfz h
  have k4 := fun W => runes_len ⟨(foldL t.data.toList).toArray⟩ n W hfz (by show (runesL (foldL t.data.toList)).length = n; rw [fold_count, hn])
  have k5 := fun W => runes_len t n W hz2 hn
  have e2 : foldL (⟨(foldL t.data.toList).toArray⟩ : ByteArray).data.toList = foldL t.data.toList := fold_fold t.data.toList
  have e3 : Lib.validD (⟨(foldL t.data.toList).toArray⟩ : ByteArray).data.toList = true := fold_valid t.data.toList
  simp only [e2] at k2
  simp only [e3] at k3
  obtain ⟨F, hF⟩ : ∃ F : ByteArray, (⟨(foldL t.data.toList).toArray⟩ : ByteArray) = F := ⟨_, rfl⟩
  simp only [hF] at k1 k2 k3 k4
  have kd := fun W a h hw => dec_in t a W hz2 h hw
  have HN := Lib.hid hn
  have K0 := Lib.hid hcut
  have K1 := Lib.hid k1
  have K2 := Lib.hid k2
  have K3 := Lib.hid k3
  have K4 := Lib.hid k4
  have K5 := Lib.hid k5
  have KD := Lib.hid kd
  clear hT hcut k1 k2 k3 k4 k5 e2 e3 hF hn ht hfz kd hs
  go_enter Tryd.func6, Tryd.ntmps6
  go_wp2_with fail
  refine K0.out.mono ?_
  rintro e w0 ⟨rfl, rfl⟩
  go_wp2_with fail
  refine (K1.out _).mono ?_
  rintro e w1 ⟨rfl, b1⟩
  go_wp2_with fail
  refine (K2.out _).mono ?_
  rintro e w2 ⟨rfl, b2⟩
  have c2 := grow b1 b2
  go_wp2_with fail
  refine (K3.out _ (Utf8Tabs_below HT.out c2)).mono ?_
  rintro e w3 ⟨rfl, b3⟩
  have c3 := grow c2 b3
  go_wp2_with fail
  refine (K4.out _).mono ?_
  rintro e w4 ⟨p4, cap4, rfl, b4⟩
  have c4 := grow c3 b4
  go_wp2_with fail
  refine (K5.out _).mono ?_
  rintro e w5 ⟨p5, cap5, rfl, b5⟩
  have c5 := grow c4 b5
  clear b1 b2 b3 b4 b5 c2 c3 c4
  go_wp2
  go_loopw [4, 5] (fun at_ ct wr => ∃ (pos : Nat) (acc : List Int), at_ = .int .i64 pos ∧ ct = .int .i64 acc.length ∧ Gath t acc pos ∧ Below w0.heap.size w0 wr) (fun at_ _ _ => t.size - (intOf at_).toNat)
  case atStart => exact ⟨0, [], rfl, rfl, Gath.start t, c5⟩
  case round =>
    obtain ⟨pos, acc, rfl, rfl, hG, hb⟩ := hrel
    clear c5
    have hpos := hG.2.2
    have hacc := hG.2.1
    by_cases hp : pos < t.size
    · have hnext := hG.next hp
      have hw := (runes_at t pos hp).2
      have hw4 := width_four t pos
      have hdec := KD.out wr pos hp (Utf8Tabs_below HT.out hb)
      obtain ⟨r, hr⟩ : ∃ r, (Utf8.decode t pos).1 = r := ⟨_, rfl⟩
      obtain ⟨d, hd⟩ : ∃ d, (Utf8.decode t pos).2 = d := ⟨_, rfl⟩
      rw [hr, hd] at hnext hdec
      rw [hd] at hw hw4
      obtain ⟨hw1, hw2⟩ := hw
      have HX := Lib.hid hnext
      have HD := Lib.hid hdec
      have t1 : decide ((d : Int) < 1) = false := by simp; omega
      have t2 : decide ((4 : Int) < (d : Int)) = false := by simp; omega
      clear hr hd hnext hdec hG
      go_wp2_with fail
      refine HD.out.mono ?_
      rintro e w' ⟨rfl, hb'⟩
      have hb2 := grow hb hb'
      go_wp2
      go_roundw
      case rel => exact ⟨pos + d, acc ++ [(r : Int)], by go_num, by rw [List.length_append]; go_num, HX.out, hb2⟩
      case measure => simp [intOf]; omega
    · have hstop := hG.stop hp
      obtain rfl : pos = t.size := by omega
      have hlen : acc.length = n := by rw [hstop]; exact HN.out
      rw [hlen]
      clear hstop hlen hG hacc
      go_wp2_with fail
      refine (K5.out _).mono ?_
      rintro e w6 ⟨p6, cap6, rfl, b6⟩
      have c6 := grow hb b6
      go_wp2_with fail
      refine (awake_any _ (Utf8Tabs_below HT.out c6)).mono ?_
      rintro e w7 ⟨rfl, b7⟩
      have c7 := grow c6 b7
      go_wp2
      go_ret
      exact ⟨rfl, c7⟩

/-! ### a slice of numbers that came in -/
/-- It is nil; or it leads to a row of 'cap' cells, the numbers 'zs' (the first 'len' are its elements). -/
def ArgInts (w : World) (a : Option Addr) (len cap : Nat) (zs : List Int) : Prop :=
  (a = none ∧ len = 0 ∧ cap = 0 ∧ zs = []) ∨
  ∃ x, a = some x ∧ len ≤ cap ∧ cap ≤ maxLen ∧ zs.length = cap ∧ ∀ i, i < zs.length → w.cell? (x.add i) = some (.int .i64 (zs.getD i 0))
theorem cell_lt {w : World} {b o : Nat} {v : Value} (h : w.cell? ⟨b, o, none⟩ = some v) : b < w.heap.size := by
  by_cases hb : b < w.heap.size
  · exact hb
  · simp [World.cell?, Array.getElem?_eq_none (Nat.le_of_not_lt hb)] at h
theorem ArgInts.le {w : World} {a : Option Addr} {len cap : Nat} {zs : List Int} (h : ArgInts w a len cap zs) : len ≤ cap ∧ cap ≤ maxLen ∧ zs.length = cap := by
  rcases h with ⟨_, h1, h2, h3⟩ | ⟨x, _, h1, h2, h3, _⟩
  · subst h1 h2 h3; exact ⟨Nat.le_refl _, by unfold maxLen; omega, rfl⟩
  · exact ⟨h1, h2, h3⟩
theorem ArgInts.row {w : World} {a : Option Addr} {len cap : Nat} {zs : List Int} (h : ArgInts w a len cap zs) (m : Nat) (hm : m ≤ len) : IntRow w (.slice a m cap) (zs.take m) := by
  have hle := h.le
  have hl : (zs.take m).length = m := by rw [List.length_take]; omega
  refine ⟨a, cap, by rw [hl], ?_⟩
  by_cases h0 : m = 0
  · subst h0; exact .inl rfl
  rcases h with ⟨_, h1, _⟩ | ⟨x, hx, _, _, _, hc⟩
  · omega
  · obtain ⟨b, off, spot⟩ := x
    have hc0 := hc 0 (by omega)
    have hspot : spot = none := by simpa [Addr.add] using World.cell?_spot hc0
    subst hspot
    refine .inr ⟨b, off, hx, cell_lt (o := off) (by simpa [Addr.add] using hc0), fun i hi => ?_⟩
    rw [hl] at hi
    have h2 := hc i (by omega)
    have e : (zs.take m).getD i 0 = zs.getD i 0 := by simp [List.getD, hi]
    have e2 : (⟨b, off, none⟩ : Addr).add i = ⟨b, off + i, none⟩ := by unfold Addr.add; split <;> simp_all
    rw [e, ← e2]
    exact h2

/-- What the code must tell of a number: itself, or 65533. -/
theorem norm_cases (r : Int) : norm r = if r < 0 ∨ 1114111 < r ∨ (55296 ≤ r ∧ r ≤ 57343) then 65533 else r := by
  unfold norm
  by_cases h : r < 0 ∨ (55296 ≤ r ∧ r ≤ 57343) ∨ 1114111 < r
  · rw [if_pos h, if_pos (by omega)]
  · rw [if_neg h, if_neg (by omega)]
theorem back_size (zs : List Int) (h : zs.length ≤ 500) : (⟨(encL zs).toArray⟩ : ByteArray).size ≤ 1000000 := by
  have h1 := encL_length zs
  show (encL zs).toArray.size ≤ _
  rw [List.size_toArray]
  omega

def BackRunes (zs : List Int) (w : World) (e : Ending) (w' : World) : Prop := ∃ p cap, e = .returned (.slice p zs.length cap) ∧ IntRow w' (.slice p zs.length cap) (zs.map norm) ∧ Below w.heap.size w w'
theorem back_runes (zs : List Int) (w : World) (h : zs.length ≤ 500) : Calls Tryd.prog 11 #[.string ⟨(encL zs).toArray⟩] w (BackRunes zs w) := by
  refine (runes_any _ w (back_size zs h)).mono fun e w' hh => ?_
  obtain ⟨v, rfl, hown, hb⟩ := hh
  rw [show (⟨(encL zs).toArray⟩ : ByteArray).data.toList = encL zs from rfl, runes_enc] at hown
  obtain ⟨p, cap, rfl, _⟩ := hown.shape
  have hr := hown.row
  rw [List.length_map] at hr
  exact ⟨p, cap, by rw [List.length_map], hr, hb⟩
theorem back_valid (zs : List Int) (w : World) (h : zs.length ≤ 500) (hT : Lib.Utf8Tabs 0 1 w) : Calls Tryd.prog 22 #[.string ⟨(encL zs).toArray⟩] w fun e w' => e = .returned (.bool true) ∧ Below w.heap.size w w' := by
  have h1 := valid_any ⟨(encL zs).toArray⟩ w (back_size zs h) hT
  rw [show (⟨(encL zs).toArray⟩ : ByteArray).data.toList = encL zs from rfl, valid_enc] at h1
  exact h1
theorem IntRow.at {w : World} {p : Option Addr} {n cap : Nat} {zs : List Int} (h : IntRow w (.slice p n cap) zs) {k : Nat} (hk : k < zs.length) : ∃ b off, p = some ⟨b, off, none⟩ ∧ b < w.heap.size ∧ w.cell? ⟨b, off + k, none⟩ = some (.int .i64 (zs.getD k 0)) := by
  obtain ⟨p', cap', hv, h⟩ := h
  simp only [Value.slice.injEq] at hv
  obtain ⟨rfl, _, _⟩ := hv
  rcases h with h | ⟨b, off, hp, hlt, hc⟩
  · subst h; simp at hk
  · exact ⟨b, off, hp, hlt, hc k hk⟩

set_option maxRecDepth 100000 in
set_option maxHeartbeats 2000000 in
theorem back_walk (a : Option Addr) (len cap : Nat) (all : List Int) (w : World) (ha : ArgInts w a len cap all) (hT : Lib.Utf8Tabs 0 1 w) :
    Calls Tryd.prog 5 #[.slice a len cap] w fun e w' => e = .returned (.bool true) ∧ Below w.heap.size w w' := by
  have HT := Lib.hid hT
  have hle := ha.le
  obtain ⟨hlc, hcm, hac⟩ := hle
  unfold maxLen at hcm
  obtain ⟨m, hm, hml, hm5⟩ : ∃ m : Nat, min (len : Int) 500 = (m : Int) ∧ m ≤ len ∧ m ≤ 500 := ⟨min len 500, by omega, by omega, by omega⟩
  have hrow := ha.row m hml
  have hzl : (all.take m).length = m := by rw [List.length_take]; omega
  obtain ⟨zs, hz⟩ : ∃ zs, all.take m = zs := ⟨_, rfl⟩
  rw [hz] at hrow hzl
  have k1 := enc_any _ zs w hrow (by omega)
  have k2 := fun W => back_runes zs W (by omega)
  have k3 := fun W h => back_valid zs W (by omega) h
  obtain ⟨F, hF⟩ : ∃ F : ByteArray, (⟨(encL zs).toArray⟩ : ByteArray) = F := ⟨_, rfl⟩
  rw [hF] at k1
  simp only [hF] at k2 k3
  have K1 := Lib.hid k1
  have K2 := Lib.hid k2
  have K3 := Lib.hid k3
  have HR := Lib.hid hrow
  have hmc : (m : Int) ≤ (cap : Int) := by omega
  clear hT k1 k2 k3 hrow hF hz ha hac
  subst hzl
  go_enter Tryd.func5, Tryd.ntmps5
  go_wp2_with fail
  refine K1.out.mono ?_
  rintro e w1 ⟨rfl, b1⟩
  clear hm
  go_wp2_with fail
  refine (K2.out _).mono ?_
  rintro e w2 ⟨p2, cap2, rfl, hrow2, b2⟩
  have c2 := grow b1 b2
  have HR2 := Lib.hid hrow2
  clear hrow2
  go_wp2_with fail
  refine (K3.out _ (Utf8Tabs_below HT.out c2)).mono ?_
  rintro e w3 ⟨rfl, b3⟩
  have c3 := grow c2 b3
  clear b1 b2 c2
  go_wp2
  go_loopw [5] (fun i wr => ∃ k : Nat, k ≤ zs.length ∧ i = .int .i64 k ∧ Below w.heap.size w wr ∧ Below w2.heap.size w2 wr) (fun i _ => zs.length - (intOf i).toNat)
  case atStart => exact ⟨0, Nat.zero_le _, rfl, c3, b3⟩
  case round =>
    obtain ⟨k, hk, rfl, hb, hb2⟩ := hrel
    clear c3 b3
    by_cases hlt : k < zs.length
    · obtain ⟨b, off, rfl, hbl, hc⟩ := HR.out.at hlt
      obtain ⟨bb, off2, rfl, hbl2, hc2⟩ := HR2.out.at (k := k) (by rw [List.length_map]; exact hlt)
      rw [← hb.cell (p := ⟨b, off + k, none⟩) hbl] at hc
      rw [← hb2.cell (p := ⟨bb, off2 + k, none⟩) hbl2] at hc2
      have e2 : (zs.map norm).getD k 0 = norm (zs.getD k 0) := by simp [List.getD, hlt]
      rw [e2] at hc2
      obtain ⟨r, hr⟩ : ∃ r, zs.getD k 0 = r := ⟨_, rfl⟩
      rw [hr] at hc hc2
      clear e2 hr
      by_cases g1 : r < 0
      · have q : norm r = 65533 := by unfold norm; rw [if_pos (by omega)]
        rw [q] at hc2
        have d1 : decide (r < 0) = true := by simp; omega
        clear q
        go_wp2
        go_roundw
        case rel => exact ⟨k + 1, by omega, by go_num, hb, hb2⟩
        case measure => simp [intOf]; omega
      by_cases g2 : 1114111 < r
      · have q : norm r = 65533 := by unfold norm; rw [if_pos (by omega)]
        rw [q] at hc2
        have d1 : decide (r < 0) = false := by simp; omega
        have d2 : decide (1114111 < r) = true := by simp; omega
        clear q
        go_wp2
        go_roundw
        case rel => exact ⟨k + 1, by omega, by go_num, hb, hb2⟩
        case measure => simp [intOf]; omega
      have d1 : decide (r < 0) = false := by simp; omega
      have d2 : decide (1114111 < r) = false := by simp; omega
      by_cases g3 : 55296 ≤ r
      · have d3 : decide (55296 ≤ r) = true := by simp; omega
        by_cases g4 : r ≤ 57343
        · have q : norm r = 65533 := by unfold norm; rw [if_pos (by omega)]
          rw [q] at hc2
          have d4 : decide (r ≤ 57343) = true := by simp; omega
          clear q
          go_wp2
          go_roundw
          case rel => exact ⟨k + 1, by omega, by go_num, hb, hb2⟩
          case measure => simp [intOf]; omega
        · have q : norm r = r := by unfold norm; rw [if_neg (by omega)]
          rw [q] at hc2
          have d4 : decide (r ≤ 57343) = false := by simp; omega
          clear q
          go_wp2
          go_roundw
          case rel => exact ⟨k + 1, by omega, by go_num, hb, hb2⟩
          case measure => simp [intOf]; omega
      · have d3 : decide (55296 ≤ r) = false := by simp; omega
        have q : norm r = r := by unfold norm; rw [if_neg (by omega)]
        rw [q] at hc2
        clear q
        go_wp2
        go_roundw
        case rel => exact ⟨k + 1, by omega, by go_num, hb, hb2⟩
        case measure => simp [intOf]; omega
    · obtain rfl : k = zs.length := by omega
      go_wp2_with fail
      refine (awake_any _ (Utf8Tabs_below HT.out hb)).mono ?_
      rintro e w7 ⟨rfl, b7⟩
      have c7 := grow hb b7
      go_wp2
      go_ret
      exact ⟨rfl, c7⟩

/-! ### UtfRunes -/
theorem dec_both (t : ByteArray) (p : Int) (hz : t.size ≤ 1000000) : ∃ R D : Int,
    (∀ W, Lib.Utf8Tabs 0 1 W → Calls Tryd.prog 8 #[.string t, .int .i64 p] W fun e w' => e = .returned (.tuple #[.int .i64 R, .int .i64 D]) ∧ Below W.heap.size W w') ∧
    (∀ W, Calls Tryd.prog 9 #[.string t, .int .i64 p] W fun e w' => e = .returned (.tuple #[.int .i64 R, .int .i64 D]) ∧ W = w') := by
  by_cases h : 0 ≤ p ∧ p < t.size
  · obtain ⟨a, rfl⟩ := Int.eq_ofNat_of_zero_le h.1
    have ha : a < t.size := by omega
    exact ⟨_, _, fun W hT => dec_in t a W hz ha hT, fun W => rdec_in t a W (by omega) ha⟩
  · exact ⟨0, 0, fun W _ => (dec_out t p W (by omega)).mono fun e w' ⟨h1, h2⟩ => ⟨h1, by subst h2; exact Below.refl _ _⟩, fun W => rdec_out t p W (by omega)⟩

set_option maxRecDepth 100000 in
set_option maxHeartbeats 2000000 in
theorem runes_walk (s : ByteArray) (p : Int) (a : Option Addr) (len cap : Nat) (all : List Int) (w : World) (hs : s.size ≤ maxLen) (ha : ArgInts w a len cap all) (hT : Lib.Utf8Tabs 0 1 w) :
    Calls Tryd.prog 3 #[.string s, .int .i64 p, .slice a len cap] w fun e w' => e = .returned (.bool true) ∧ Below w.heap.size w w' := by
  have HT := Lib.hid hT
  obtain ⟨hlc, hcm, hac⟩ := ha.le
  unfold maxLen at hcm
  obtain ⟨m, hm, hml, hm5⟩ : ∃ m : Nat, min (len : Int) 500 = (m : Int) ∧ m ≤ len ∧ m ≤ 500 := ⟨min len 500, by omega, by omega, by omega⟩
  have hrow := ha.row m hml
  have hzl : (all.take m).length = m := by rw [List.length_take]; omega
  obtain ⟨zs, hz⟩ : ∃ zs, all.take m = zs := ⟨_, rfl⟩
  rw [hz] at hrow hzl
  have hcut := fun W => cut_any s W hs
  have htz := cutS_size s
  obtain ⟨t, ht⟩ : ∃ t, cutS s = t := ⟨_, rfl⟩
  rw [ht] at htz
  simp only [ht] at hcut
  have hz2 : t.size ≤ 1000000 := by omega
  obtain ⟨R, D, kd, kr⟩ := dec_both t p hz2
  have k3 := fun W => runes_any t W hz2
  have k4 := fun W => rrunes_any t W hz2
  have hlen := runesL_length t.data.toList
  rw [← Lib.size_eq] at hlen
  have k5 := fun u v W h1 h2 => same_any u v (runesL t.data.toList) W h1 h2 (by omega)
  have k6 := fun W h => enc_any (.slice a m cap) zs W h (by omega)
  have k7 := fun W h => renc_any (.slice a m cap) zs W h (by omega)
  unfold RunesLeft at k3 k4
  obtain ⟨F, hF⟩ : ∃ F : ByteArray, (⟨(encL zs).toArray⟩ : ByteArray) = F := ⟨_, rfl⟩
  simp only [hF] at k6 k7
  obtain ⟨rs, hrs⟩ : ∃ rs, runesL t.data.toList = rs := ⟨_, rfl⟩
  simp only [hrs] at k3 k4 k5
  have K0 := Lib.hid hcut
  have K1 := Lib.hid kd
  have K2 := Lib.hid kr
  have K3 := Lib.hid k3
  have K4 := Lib.hid k4
  have K5 := Lib.hid k5
  have K6 := Lib.hid k6
  have K7 := Lib.hid k7
  have HR := Lib.hid hrow
  have hmc : (m : Int) ≤ (cap : Int) := by omega
  clear hT kd kr k3 k4 k5 k6 k7 hrow hF hrs hz ha hac hcut ht hlen hs htz hz2 hzl
  go_enter Tryd.func3, Tryd.ntmps3
  go_wp2_with fail
  go_quiet ((go_at_call 7; exact Calls.quiet_of_same (K0.out _)))
  have b0 := below_drewN (Below.refl w.heap.size w) nq
  clear hm
  go_wp2_with fail
  refine (K1.out _ (Utf8Tabs_below HT.out b0)).mono ?_
  rintro e w1 ⟨rfl, b1⟩
  have c1 : Below w.heap.size w w1 := grow b0 b1
  go_wp2_with fail
  refine (K2.out _).mono ?_
  rintro e w2 ⟨rfl, rfl⟩
  go_wp2_with fail
  refine (K3.out _).mono ?_
  rintro e w3 ⟨v3, rfl, own3, b3⟩
  have r3 := own3.row
  have c3 := grow c1 b3
  have H3 := Lib.hid r3
  clear r3 own3
  go_wp2_with fail
  refine (K4.out _).mono ?_
  rintro e w4 ⟨v4, rfl, own4, b4⟩
  have r4 := own4.row
  have c4 := grow c3 b4
  have H4 := Lib.hid r4
  clear r4 own4
  go_wp2_with fail
  refine (K5.out _ _ _ (H3.out.below b4) H4.out).mono ?_
  rintro e w5 ⟨rfl, b5⟩
  have c5 := grow c4 b5
  go_wp2_with fail
  refine (K6.out _ (HR.out.below c5)).mono ?_
  rintro e w6 ⟨rfl, b6⟩
  have c6 := grow c5 b6
  go_wp2_with fail
  refine (K7.out _ (HR.out.below c6)).mono ?_
  rintro e w7 ⟨rfl, b7⟩
  have c7 := grow c6 b7
  go_wp2_with fail
  refine (awake_any _ (Utf8Tabs_below HT.out c7)).mono ?_
  rintro e w8 ⟨rfl, b8⟩
  have c8 := grow c7 b8
  go_wp2
  go_ret
  exact ⟨rfl, c8⟩
end Go.Proofs.YtnbnlmckmhoceaaDoor.UM
