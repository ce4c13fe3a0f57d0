/-
  Sum, the reference's Next and Of: what the plain lists say. No condition.
-/
import Derived.Test.YtfnohcmoaooghaaCrcGo
set_option linter.unusedVariables false
namespace Go.Proofs.Ytfnohcmoaooghaa.CR
open Go.RowKit Go.Proofs.Ytfnohcmoaooghaa.MM Go.Proofs.Ytfnohcmoaooghaa.CM

/-- A number that was reckoned; memory that was there is as it was. -/
def Told (n : Nat) (w : World) (e : Ending) (w' : World) : Prop := e = .returned (.int .u32 n) ∧ Below w.heap.size w w'
theorem prow_one {w : World} {v : Value} {l : List UInt8} (h : BRow w v l) : PRow (w.alloc (.cells #[v] 22)) (.slice (some ⟨w.heap.size, 0, none⟩) 1 1) [l] :=
  prow_lit [v] [l] rfl (by unfold maxLen; simp) (fun i hi => by
    obtain rfl : i = 0 := by simp at hi; exact hi
    exact ⟨v, rfl, h⟩)
theorem flat_one (l : List UInt8) : [l].flatten = l := by simp

set_option maxRecDepth 100000 in
theorem sum_any (v : Value) (ls : List (List UInt8)) (w : World) (hr : PRow w v ls) : Calls Try.prog 27 #[v] w (Told (sumL ls.flatten) w) := by
  have h := goon_any 0 v ls w (by omega) hr
  unfold sumL Told
  generalize nextL 0 ls.flatten = F at *
  have H := Lib.hid h
  clear h hr
  go_enter Try.func27, Try.ntmps27
  go_wp2_with fail
  refine H.out.mono ?_
  rintro e w1 ⟨rfl, hb⟩
  go_wp2_with fail
  go_ret
  exact ⟨rfl, hb⟩

set_option maxRecDepth 100000 in
theorem rnext_any (s : Nat) (v : Value) (l : List UInt8) (w : World) (hs : s < 4294967296) (hr : BRow w v l) :
    Calls Try.prog 36 #[.int .u32 s, v] w fun e w' => e = .returned (.int .u32 (nextL s l)) ∧ w = w' := by
  obtain ⟨p, cap, rfl, hlc, hcm⟩ := hr.shape
  unfold maxLen at hcm
  obtain ⟨r, hrr⟩ : ∃ r, run (notB s) l = r := ⟨_, rfl⟩
  have HRes : Hid (nextL s l = notB r) := Lib.hid (by unfold nextL; rw [hrr])
  have HR0 : Hid (run (notB s) (l.drop 0 ++ []) = r) := Lib.hid (by rw [List.append_nil]; exact hrr)
  obtain ⟨F, hF⟩ : ∃ F, nextL s l = F := ⟨_, rfl⟩
  rw [hF]
  rw [hF] at HRes
  have HX := Lib.hid hr
  clear hrr hr hF
  have hu := u32_unsigned
  have hn := not_code hs
  have hnl := notB_lt s
  go_enter Try.func36, Try.ntmps36
  go_wp2_with fail
  go_loop [0, 5] (fun s i => ∃ j m : Nat, j ≤ l.length ∧ i = .int .i64 j ∧ s = .int .u32 m ∧ m < 4294967296 ∧ Hid (run m (l.drop j ++ []) = r)) (fun _ i => l.length - (intOf i).toNat)
  case atStart => exact ⟨0, notB s, by omega, rfl, rfl, hnl, HR0⟩
  case round =>
    obtain ⟨j, n, hj, rfl, rfl, hn3, H3⟩ := hrel
    clear HR0 hn hnl hs
    by_cases hjl : j < l.length
    · obtain ⟨b2, off2, rfl, hbl2, hcell2⟩ := HX.out.at_ hjl
      have h4 := run_drop hjl H3.out
      generalize l[j] = c at h4 hcell2
      have hon := on_any n c w hn3
      have hn2 := onB_lt hn3 c.toNat_lt
      generalize onB n c.toNat = n2 at *
      have H4 := Lib.hid h4
      have HON := Lib.hid hon
      have hcb := c.toNat_lt
      clear h4 H3 hon
      go_wp2_with fail
      refine HON.out.mono ?_
      rintro e w1 ⟨rfl, rfl⟩
      go_wp2_with fail
      go_round
      case rel => exact ⟨j + 1, n2, by omega, by go_num, rfl, hn2, H4⟩
      case measure => simp [intOf]; omega
    · obtain rfl : j = l.length := by omega
      have h4 := H3.out
      rw [List.drop_length] at h4
      have h5 : n = r := h4
      subst h5
      have hn := not_code hn3
      clear h4 H3
      go_wp2_with fail
      have hF := HRes.out
      subst hF
      go_ret
      exact ⟨rfl, rfl⟩

set_option maxRecDepth 100000 in
theorem rof_any (v : Value) (l : List UInt8) (w : World) (hr : BRow w v l) : Calls Try.prog 30 #[v] w fun e w' => e = .returned (.int .u32 (sumL l)) ∧ w = w' := by
  have h := rnext_any 0 v l w (by omega) hr
  unfold sumL
  generalize nextL 0 l = F at *
  have H := Lib.hid h
  clear h hr
  go_enter Try.func30, Try.ntmps30
  go_wp2_with fail
  refine H.out.mono ?_
  rintro e w1 ⟨rfl, rfl⟩
  go_wp2_with fail
  go_ret
  exact ⟨rfl, rfl⟩
end Go.Proofs.Ytfnohcmoaooghaa.CR
