/-
  The reference's one, Is, Check, Same, Docs, Find: what the plain lists say. Condition: fewer than 10^9 posts.
-/
import Derived.Test.YtdgjbhejokmeoaaPstSame
set_option linter.unusedVariables false
namespace Go.Proofs.Ytdgjbhejokmeoaa.PW
open Go.RowKit Go.Proofs.Ytdgjbhejokmeoaa.MM Go.Proofs.Ytdgjbhejokmeoaa.PM

def oneL (p : Post) : Bool := decide (0 ≤ p.1) && decide (p.1 ≤ 65535) && !oddL p
def okPos (qs : List Int) (k : Nat) : Prop := 0 ≤ qs.getD k 0 ∧ qs.getD k 0 < 1048576 ∧ (0 < k → qs.getD (k - 1) 0 < qs.getD k 0)
theorem oneL_false {z : Int} {qs : List Int} (k : Nat) (hk : k < qs.length) (h : ¬ okPos qs k) : oneL (z, qs) = false := by
  unfold oneL
  rw [Bool.eq_false_iff]
  intro hc
  rw [Bool.and_eq_true] at hc
  have h2 := hc.2
  unfold oddL at h2
  rw [Bool.not_eq_true', Bool.or_eq_false_iff, Bool.not_eq_false'] at h2
  exact h ((riseL_iff2 1048576 qs).1 h2.2 k hk)
theorem oneL_true {z : Int} {qs : List Int} (h0 : 0 ≤ z) (h1 : z ≤ 65535) (hn : qs.length ≠ 0) (h : ∀ k, k < qs.length → okPos qs k) : oneL (z, qs) = true := by
  have hr := (riseL_iff2 1048576 qs).2 h
  unfold oneL oddL
  cases qs with
  | nil => simp at hn
  | cons q qs => simp [h0, h1, hr]
theorem oneL_neg {z : Int} {qs : List Int} (h : z < 0) : oneL (z, qs) = false := by unfold oneL; rw [decide_eq_false (show ¬ 0 ≤ z by omega)]; rfl
theorem oneL_big {z : Int} {qs : List Int} (h : 65535 < z) : oneL (z, qs) = false := by unfold oneL; rw [decide_eq_false (show ¬ z ≤ 65535 by omega)]; simp
theorem oneL_none {z : Int} : oneL (z, []) = false := by unfold oneL oddL; simp

set_option maxRecDepth 100000 in
set_option maxHeartbeats 2000000 in
theorem one_any (z : Int) (x : Value) (qs : List Int) (w : World) (hr : IOn (fun _ => True) w x qs) : Calls Try.prog 50 #[.agg #[.int .i64 z, x]] w fun e w' => e = .returned (.bool (oneL (z, qs))) ∧ Below w.heap.size w w' := by
  obtain ⟨p, cap, rfl, hlc, hcm, _⟩ := hr.shape
  unfold maxLen at hcm
  have hb0 : Below w.heap.size w (w.alloc (.cells #[.int .i64 z, .slice p qs.length cap] 47)) := (Below.refl _ _).alloc (Nat.le_refl _) _
  by_cases h0 : z < 0
  · have t1 : decide (z < 0) = true := decide_eq_true h0
    rw [oneL_neg h0]
    have HB := Lib.hid hb0
    clear hr h0 hb0
    go_enter Try.func50, Try.ntmps50
    go_wp2_with fail
    go_ret
    exact ⟨rfl, HB.out⟩
  have t1 : decide (z < 0) = false := decide_eq_false h0
  by_cases h1 : 65535 < z
  · have t2 : decide (z > 65535) = true := decide_eq_true h1
    rw [oneL_big h1]
    have HB := Lib.hid hb0
    clear hr h0 hb0 h1
    go_enter Try.func50, Try.ntmps50
    go_wp2_with fail
    go_ret
    exact ⟨rfl, HB.out⟩
  have t2 : decide (z > 65535) = false := decide_eq_false (by omega)
  by_cases hn : qs.length = 0
  · have t3 : ((qs.length : Int) == 0) = true := by rw [beq_iff_eq]; omega
    have hq : qs = [] := List.eq_nil_of_length_eq_zero hn
    have e : oneL (z, qs) = false := by rw [hq]; exact oneL_none
    rw [e]
    have HB := Lib.hid hb0
    clear hr h0 hb0 h1 hq e hn
    go_enter Try.func50, Try.ntmps50
    go_wp2_with fail
    go_ret
    exact ⟨rfl, HB.out⟩
  have t3 : ((qs.length : Int) == 0) = false := by rw [beq_eq_false_iff_ne]; omega
  have HF := Lib.hid (fun k hk h => oneL_false (z := z) (qs := qs) k hk h)
  have HT := Lib.hid (fun h => oneL_true (z := z) (qs := qs) (by omega) (by omega) hn h)
  obtain ⟨RES, hRES⟩ : ∃ R, oneL (z, qs) = R := ⟨_, rfl⟩
  rw [hRES] at HF HT ⊢
  have HR := Lib.hid (hr.keep (kep_below (fun _ => True) hb0) fun _ _ h => h)
  have HB := Lib.hid hb0
  have H0 : Hid (∀ j, j < 0 → okPos qs j) := Lib.hid (fun j hj => by omega)
  obtain ⟨n, hnn⟩ : ∃ n, qs.length = n := ⟨_, rfl⟩
  have HNN := Lib.hid hnn
  rw [hnn] at t3 hlc hb0 HR HB HF HT ⊢
  have hsz1 := hb0.size
  have HC0 : Hid ((w.alloc (.cells #[.int .i64 z, .slice p n cap] 47)).heap[w.heap.size]? = some (.cells #[.int .i64 z, .slice p n cap] 47)) := Lib.hid (heap_alloc_new _ _)
  clear hr h0 h1 hn hRES hnn
  go_enter Try.func50, Try.ntmps50
  go_wp2_with fail
  go_loopw [3] (fun i wr => ∃ k : Nat, k ≤ n ∧ i = .int .i64 k ∧ Hid (∀ j, j < k → okPos qs j) ∧ Hid (Below (w.alloc (.cells #[.int .i64 z, .slice p n cap] 47)).heap.size (w.alloc (.cells #[.int .i64 z, .slice p n cap] 47)) wr)) (fun i _ => n - (intOf i).toNat)
  case atStart => exact ⟨0, by omega, rfl, H0, Lib.hid (Below.refl _ _)⟩
  case round =>
    obtain ⟨k, hk, rfl, HA, HBr⟩ := hrel
    clear H0
    have hcc := (HBr.out.block w.heap.size (by simp)).trans HC0.out
    have f0 : wr.cell? ⟨w.heap.size, 0, none⟩ = some (.int .i64 z) := by rw [cell_of_row wr _ 0 _ _ _ hcc]; rfl
    have f1 : wr.cell? ⟨w.heap.size, 1, none⟩ = some (.slice p n cap) := by rw [cell_of_row wr _ 1 _ _ _ hcc]; rfl
    by_cases hlt : k < n
    · have t4 : decide ((k : Int) < (n : Int)) = true := by simp; omega
      have hltq : k < qs.length := by rw [HNN.out]; exact hlt
      obtain ⟨b, off, rfl, hbl, _, hcell⟩ := (HR.out.keep (kep_below (fun _ => True) HBr.out) fun _ _ h => h).at_ hltq
      have hat := fun j (hj : j < qs.length) => (((HR.out.keep (kep_below (fun _ => True) HBr.out) fun _ _ h => h).at_ hj))
      have hg : qs.getD k 0 = qs[k] := by simp [hltq]
      obtain ⟨y, hy⟩ : ∃ y, qs[k] = y := ⟨_, rfl⟩
      rw [hy] at hcell hg
      have HG := Lib.hid hg
      have HLQ := Lib.hid hltq
      have HAT := Lib.hid hat
      clear hy hg hat hcc
      by_cases c1 : y < 0
      · have s1 : decide (y < 0) = true := decide_eq_true c1
        have hf : RES = false := HF.out k hlt (fun h => by have := h.1; rw [HG.out] at this; omega)
        subst hf
        clear HA c1
        go_wp2_with fail
        go_quiet (fail)
        go_wp2_with fail
        go_ret
        exact ⟨rfl, below_drewN (HB.out.trans (HBr.out.mono hsz1)) _⟩
      have s1 : decide (y < 0) = false := decide_eq_false c1
      by_cases c2 : y > 1048575
      · have s2 : decide (y > 1048575) = true := decide_eq_true c2
        have hf : RES = false := HF.out k hlt (fun h => by have := h.2.1; rw [HG.out] at this; omega)
        subst hf
        clear HA c1 c2
        go_wp2_with fail
        go_quiet (fail)
        go_wp2_with fail
        go_ret
        exact ⟨rfl, below_drewN (HB.out.trans (HBr.out.mono hsz1)) _⟩
      have s2 : decide (y > 1048575) = false := decide_eq_false c2
      by_cases c3 : 0 < k
      · have s3 : decide ((k : Int) > 0) = true := by simp; omega
        obtain ⟨m, hm⟩ : ∃ m, k = m + 1 := ⟨k - 1, by omega⟩
        have hmq : m < qs.length := by rw [HNN.out]; omega
        obtain ⟨b', off', hbb, _, _, hcell2⟩ := HAT.out m hmq
        simp only [Option.some.injEq, Addr.mk.injEq] at hbb
        obtain ⟨rfl, rfl, _⟩ := hbb
        have hg2 : qs.getD (k - 1) 0 = qs[m] := by rw [show k - 1 = m by omega]; simp [hmq]
        obtain ⟨y2, hy2⟩ : ∃ y, qs[m] = y := ⟨_, rfl⟩
        rw [hy2] at hcell2 hg2
        have HG2 := Lib.hid hg2
        have e1 : (k : Int) - 1 = (m : Int) := by omega
        have e2 : IntKind.i64.wrap (m : Int) = (m : Int) := by rw [IntKind.wrap_i64]; omega
        have hmn : m < n := by omega
        have HM := Lib.hid hm
        clear hy2 hg2 hm
        by_cases c4 : y ≤ y2
        · have s4 : decide (y ≤ y2) = true := decide_eq_true c4
          have hf : RES = false := HF.out k hlt (fun h => by have := h.2.2 c3; rw [HG.out, HG2.out] at this; omega)
          subst hf
          clear HA c1 c2 c4
          go_wp2_with fail
          go_quiet (fail)
          go_wp2_with fail
          go_ret
          exact ⟨rfl, below_drewN (HB.out.trans (HBr.out.mono hsz1)) _⟩
        · have s4 : decide (y ≤ y2) = false := decide_eq_false c4
          have HA2 : Hid (∀ j, j < k + 1 → okPos qs j) := Lib.hid (fun j hj => by
            by_cases e : j = k
            · subst e; unfold okPos; rw [HG.out, HG2.out]; omega
            · exact HA.out j (by omega))
          clear HA c1 c2 c4
          go_wp2_with fail
          go_quiet (fail)
          go_wp2_with fail
          go_roundw
          case rel => exact ⟨k + 1, by omega, by go_num, HA2, Lib.hid (below_drewN HBr.out _)⟩
          case measure => simp [intOf]; omega
      · have s3 : decide ((k : Int) > 0) = false := by simp; omega
        have HA2 : Hid (∀ j, j < k + 1 → okPos qs j) := Lib.hid (fun j hj => by
          by_cases e : j = k
          · subst e; unfold okPos; rw [HG.out]; omega
          · exact HA.out j (by omega))
        have s5 : decide (0 < k) = false := decide_eq_false c3
        clear HA c1 c2
        go_wp2_with fail
        go_quiet (fail)
        go_wp2_with fail
        go_roundw
        case rel => exact ⟨k + 1, by omega, by go_num, HA2, Lib.hid (below_drewN HBr.out _)⟩
        case measure => simp [intOf]; omega
    · obtain rfl : k = n := by omega
      have t4 : decide ((k : Int) < (k : Int)) = false := by simp
      have hf : RES = true := HT.out (fun j hj => HA.out j hj)
      subst hf
      clear HA
      go_wp2_with fail
      go_ret
      exact ⟨rfl, HB.out.trans (HBr.out.mono hsz1)⟩
end Go.Proofs.Ytdgjbhejokmeoaa.PW
