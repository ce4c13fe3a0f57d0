/-
  The reference's Words; Same and SameWords of rows that are alike. Condition: texts of at most a million bytes.
-/
import Derived.Test.YtnacfdcnhecjeaaTokRef
import Derived.Deep.QuietTactic
import Derived.BigQuiet
set_option linter.unusedVariables false
namespace Go.Proofs.Ytnacfdcnhecjeaa.TK
open Go.RowKit Go.Proofs.Ytnacfdcnhecjeaa.MM
open Go.Proofs.Ytnacfdcnhecjeaa.UM (lowerZ wordZ encL runesL)

set_option maxRecDepth 100000 in
set_option maxHeartbeats 400000 in
theorem rwords_any (s : ByteArray) (w : World) (hs : s.size ≤ 1000000) : Calls Try.prog 12 #[.string s] w (WordsLeft (wordsB s.data.toList) w) := by
  have hc := wordsB_count s.data.toList
  rw [← Lib.size_eq] at hc
  have HWd := Lib.hid (rtokens_any s w hs)
  obtain ⟨ws, hws⟩ : ∃ ws, wordsB s.data.toList = ws := ⟨_, rfl⟩
  rw [hws] at hc HWd ⊢
  have hwl : ws.length ≤ 1000000 := by omega
  clear hws hc
  go_enter Try.func12, Try.ntmps12
  go_wp2_with fail
  refine HWd.out.mono ?_
  rintro e w1 ⟨v, rfl, hk, hb1⟩
  have HK := Lib.hid hk
  have hsz1 := hb1.size
  have HB1 := Lib.hid hb1
  obtain ⟨p, cap, rfl, hlc, hcm⟩ := hk.shape
  unfold maxLen at hcm
  rw [numT_len] at hlc
  have HO0 : Hid (OwnT w1.heap.size w1 (.slice none 0 0) (ws.take 0)) := Lib.hid (OwnT.nil_ _ _)
  have HB0 : Hid (Below w1.heap.size w1 w1) := Lib.hid (Below.refl _ _)
  clear hk hb1 HWd
  rw [numT_len]
  rw [numT_len] at HK
  go_wp2_with fail
  go_loopw [4, 5] (fun u i wr => ∃ k : Nat, k ≤ ws.length ∧ i = .int .i64 k ∧ Hid (OwnT w1.heap.size wr u (ws.take k)) ∧ Hid (Below w1.heap.size w1 wr)) (fun _ i _ => ws.length - (intOf i).toNat)
  case atStart => exact ⟨0, by omega, rfl, HO0, HB0⟩
  case round =>
    obtain ⟨k, hk, rfl, HO, HB⟩ := hrel
    clear HO0 HB0
    have hsz := HB.out.size
    by_cases hlt : k < ws.length
    · have t1 : decide ((k : Int) < (ws.length : Int)) = true := by simp; omega
      obtain ⟨b, off, rfl, hbl, hcell, _⟩ := HK.out.at_ (k := k) (by rw [numT_len]; exact hlt)
      rw [numT_at] at hcell
      have hcell2 := (HB.out.cell (p := ⟨b, off + k * 2, none⟩) hbl).trans hcell
      have hnx : ws.take (k + 1) = ws.take k ++ [ws[k]] := List.take_succ_eq_append_getElem hlt
      obtain ⟨x, hx⟩ : ∃ x, ws[k] = x := ⟨_, rfl⟩
      simp only [hx] at hcell2 hnx
      have HNX := Lib.hid hnx
      have hll : (ws.take k).length ≤ 1000000 := by rw [List.length_take]; omega
      clear hcell hnx hx
      go_wp2_with (at_builtin; refine wpList_append_str rfl _ _ rfl w1.heap.size _ (ws.take k) wr x rfl rfl HO.out rfl (by omega) hsz ?_)
      intro v4 w4 hown4 hb4
      rw [← HNX.out] at hown4
      have HO4 := Lib.hid hown4
      have HB4 := Lib.hid (HB.out.trans hb4)
      clear hown4 hb4
      go_wp2_with fail
      go_roundw
      case rel => exact ⟨k + 1, by omega, by go_num, HO4, HB4⟩
      case measure => simp [intOf]; omega
    · obtain rfl : k = ws.length := by omega
      have t1 : decide ((ws.length : Int) < (ws.length : Int)) = false := by simp
      have hown := HO.out
      rw [List.take_length] at hown
      have HOf := Lib.hid (hown.weaken hsz1)
      have HBf := Lib.hid (HB1.out.trans (HB.out.mono hsz1))
      clear hown HO
      go_wp2_with fail
      go_ret
      exact ⟨_, rfl, HOf.out, HBf.out⟩

/-- A truth; memory that was there is as it was. -/
def BoolLeft (b : Bool) (w : World) (e : Ending) (w' : World) : Prop := e = .returned (.bool b) ∧ Below w.heap.size w w'
set_option maxRecDepth 100000 in
set_option maxHeartbeats 400000 in
theorem samew_any (u v : Value) (ss : List (List UInt8)) (w : World) (hu : TRow w u ss) (hv : TRow w v ss) : Calls Try.prog 10 #[u, v] w (BoolLeft true w) := by
  obtain ⟨p, cp, rfl, hp1, hp2⟩ := hu.shape
  obtain ⟨q, cq, rfl, hq1, hq2⟩ := hv.shape
  unfold maxLen at hp2
  have HP := Lib.hid hu
  have HQ := Lib.hid hv
  have HB0 : Hid (Below w.heap.size w w) := Lib.hid (Below.refl _ _)
  clear hu hv
  go_enter Try.func10, Try.ntmps10
  go_wp2
  go_loopw [5] (fun i wr => ∃ k : Nat, k ≤ ss.length ∧ i = .int .i64 k ∧ Hid (Below w.heap.size w wr)) (fun i _ => ss.length - (intOf i).toNat)
  case atStart => exact ⟨0, Nat.zero_le _, rfl, HB0⟩
  case round =>
    obtain ⟨k, hk, rfl, HB⟩ := hrel
    clear HB0
    by_cases hlt : k < ss.length
    · obtain ⟨b, off, rfl, hbl, hcell⟩ := TIn.at_ HP.out hlt
      obtain ⟨b2, off2, rfl, hbl2, hcell2⟩ := TIn.at_ HQ.out hlt
      rw [← HB.out.cell (p := ⟨b, off + k, none⟩) hbl] at hcell
      rw [← HB.out.cell (p := ⟨b2, off2 + k, none⟩) hbl2] at hcell2
      obtain ⟨r, hr⟩ : ∃ r : ByteArray, ⟨(ss[k]).toArray⟩ = r := ⟨_, rfl⟩
      rw [hr] at hcell hcell2
      have hltz : (k : Int) < (ss.length : Int) := by omega
      clear hr
      go_wp2
      go_quiet (fail)
      go_wp2
      go_roundw
      case rel => exact ⟨k + 1, by omega, by go_num, Lib.hid (MM.below_drewN HB.out _)⟩
      case measure => simp [intOf]; omega
    · obtain rfl : k = ss.length := by omega
      go_wp2
      go_ret
      exact ⟨rfl, HB.out⟩
set_option maxRecDepth 100000 in
set_option maxHeartbeats 400000 in
theorem same_any (u v : Value) (ts : List (List UInt8 × Int)) (w : World) (hu : KRow w u ts) (hv : KRow w v ts) : Calls Try.prog 7 #[u, v] w (BoolLeft true w) := by
  obtain ⟨p, cp, rfl, hp1, hp2⟩ := hu.shape
  obtain ⟨q, cq, rfl, hq1, hq2⟩ := hv.shape
  unfold maxLen at hp2
  have HP := Lib.hid hu
  have HQ := Lib.hid hv
  have HB0 : Hid (Below w.heap.size w w) := Lib.hid (Below.refl _ _)
  clear hu hv
  go_enter Try.func7, Try.ntmps7
  go_wp2
  go_loopw [5] (fun i wr => ∃ k : Nat, k ≤ ts.length ∧ i = .int .i64 k ∧ Hid (Below w.heap.size w wr)) (fun i _ => ts.length - (intOf i).toNat)
  case atStart => exact ⟨0, Nat.zero_le _, rfl, HB0⟩
  case round =>
    obtain ⟨k, hk, rfl, HB⟩ := hrel
    clear HB0
    by_cases hlt : k < ts.length
    · obtain ⟨b, off, rfl, hbl, hcell, hcellb⟩ := KIn.at_ HP.out hlt
      obtain ⟨b2, off2, rfl, hbl2, hcell2, hcell2b⟩ := KIn.at_ HQ.out hlt
      rw [← HB.out.cell (p := ⟨b, off + k * 2, none⟩) hbl] at hcell
      rw [← HB.out.cell (p := ⟨b2, off2 + k * 2, none⟩) hbl2] at hcell2
      rw [← HB.out.cell (p := ⟨b, off + k * 2 + 1, none⟩) hbl] at hcellb
      rw [← HB.out.cell (p := ⟨b2, off2 + k * 2 + 1, none⟩) hbl2] at hcell2b
      obtain ⟨r, hr⟩ : ∃ r : ByteArray, ⟨(ts[k]).1.toArray⟩ = r := ⟨_, rfl⟩
      obtain ⟨n, hn⟩ : ∃ n : Int, (ts[k]).2 = n := ⟨_, rfl⟩
      rw [hr] at hcell hcell2
      rw [hn] at hcellb hcell2b
      have hltz : (k : Int) < (ts.length : Int) := by omega
      clear hr hn
      go_wp2
      go_quiet (fail)
      go_wp2
      go_roundw
      case rel => exact ⟨k + 1, by omega, by go_num, Lib.hid (MM.below_drewN HB.out _)⟩
      case measure => simp [intOf]; omega
    · obtain rfl : k = ts.length := by omega
      go_wp2
      go_ret
      exact ⟨rfl, HB.out⟩
end Go.Proofs.Ytnacfdcnhecjeaa.TK
