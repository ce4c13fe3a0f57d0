/-
  Which text stands ahead: the reference's. Condition: texts of at most 10^12 bytes.
-/
import Derived.Test.YtgacfihidpijeaaEvtTerm
import Derived.Test.YtgacfihidpijeaaTokName
set_option linter.unusedVariables false
namespace Go.Proofs.Ytgacfihidpijeaa.EV
open Go Go.RowKit Go.Proofs.Ytgacfihidpijeaa.MM Go.Proofs.Ytgacfihidpijeaa.EM
open Go.Proofs.Ytgacfihidpijeaa.TK (str_size str_index)

theorem lessE_step {a b : List UInt8} {i : Nat} {x y : UInt8} (hx : a[i]? = some x) (hy : b[i]? = some y) : lessL (a.drop i) (b.drop i) = if x.toNat = y.toNat then lessL (a.drop (i + 1)) (b.drop (i + 1)) else decide (x.toNat < y.toNat) := by
  obtain ⟨h1, e1⟩ := List.getElem?_eq_some_iff.1 hx
  obtain ⟨h2, e2⟩ := List.getElem?_eq_some_iff.1 hy
  rw [lessL_drop h1 h2, e1, e2]
  by_cases h : x = y
  · subst h
    rw [if_pos rfl, if_pos rfl]
  · rw [if_neg h, if_neg (fun q => h (UInt8.toNat_inj.1 q))]
    try exact decide_eq_decide.2 UInt8.lt_iff_toNat_lt
theorem drewN_moreE {w wr : World} (h : ∃ m, wr = w.drewN m) (n : Nat) : ∃ m, wr.drewN n = w.drewN m := by
  obtain ⟨m, rfl⟩ := h
  exact ⟨m + n, World.drewN_drewN _ _ _⟩
set_option maxRecDepth 100000 in
set_option maxHeartbeats 2000000 in
theorem rless_any (a b : List UInt8) (w : World) (ha : a.length ≤ 1000000000000) (hb : b.length ≤ 1000000000000) : Calls Try.prog 82 #[.string ⟨a.toArray⟩, .string ⟨b.toArray⟩] w fun e w' => e = .returned (.bool (lessL a b)) ∧ ∃ m, w' = w.drewN m := by
  obtain ⟨s, hs⟩ : ∃ s : ByteArray, (⟨a.toArray⟩ : ByteArray) = s := ⟨_, rfl⟩
  obtain ⟨t, ht⟩ : ∃ s : ByteArray, (⟨b.toArray⟩ : ByteArray) = s := ⟨_, rfl⟩
  have hls : s.data.toList = a := by rw [← hs]
  have hlt : t.data.toList = b := by rw [← ht]
  rw [hs, ht]
  obtain ⟨RES, hRES⟩ : ∃ RES, lessL a b = RES := ⟨_, rfl⟩
  rw [hRES]
  have H0 : Hid (lessL (a.drop 0) (b.drop 0) = RES) := Lib.hid hRES
  have HS := Lib.hid hls
  have HT := Lib.hid hlt
  have HS1 := Lib.hid (str_size hls)
  have HT1 := Lib.hid (str_size hlt)
  clear hs ht hls hlt hRES
  go_enter Try.func82, Try.ntmps82
  go_wp2_with fail
  go_loopw [5] (fun iv wr => ∃ i : Nat, i ≤ a.length ∧ i ≤ b.length ∧ iv = .int .i64 i ∧ Hid (lessL (a.drop i) (b.drop i) = RES) ∧ Hid (∃ m, wr = w.drewN m)) (fun iv _ => a.length - (intOf iv).toNat)
  case atStart => exact ⟨0, by omega, by omega, rfl, H0, Lib.hid ⟨0, rfl⟩⟩
  case round =>
    obtain ⟨i, hia, hib, rfl, HI, HB⟩ := hrel
    clear H0
    have e1 := HS1.out
    have e2 := HT1.out
    by_cases hboth : i < a.length ∧ i < b.length
    · have q1 : decide ((i : Int) < (s.size : Int)) = true := by rw [decide_eq_true_eq]; omega
      have q2 : decide (i < s.size) = true := by rw [decide_eq_true_eq]; omega
      have q3 : decide ((i : Int) < (t.size : Int)) = true := by rw [decide_eq_true_eq]; omega
      have q4 : decide (i < t.size) = true := by rw [decide_eq_true_eq]; omega
      obtain ⟨x8, hx8⟩ : ∃ c, a[i]? = some c := ⟨a[i], List.getElem?_eq_getElem hboth.1⟩
      obtain ⟨y8, hy8⟩ : ∃ c, b[i]? = some c := ⟨b[i], List.getElem?_eq_getElem hboth.2⟩
      have hix := str_index HS.out hx8
      have hiy := str_index HT.out hy8
      have hn := HI.out
      rw [lessE_step hx8 hy8] at hn
      generalize x8.toNat = x at *
      generalize y8.toNat = y at *
      have HBO := Lib.hid hboth
      by_cases hxy : x = y
      · rw [if_pos hxy] at hn
        have q5 : ((x : Int) != (y : Int)) = false := by simp [hxy]
        have HN := Lib.hid hn
        clear hn hxy hx8 hy8 HI e1 e2 hboth
        go_wp2_with fail
        go_quiet (fail)
        go_wp2_with fail
        have hbo := HBO.out
        go_roundw
        case rel => exact ⟨i + 1, by omega, by omega, by go_num, HN, Lib.hid (drewN_moreE HB.out _)⟩
        case measure => simp [intOf]; omega
      · rw [if_neg hxy] at hn
        have q5 : ((x : Int) != (y : Int)) = true := by rw [bne_iff_ne]; omega
        have q6 : decide ((x : Int) < (y : Int)) = RES := by rw [← hn]; exact decide_eq_decide.2 (by omega)
        have q7 : decide (x < y) = RES := hn
        clear hn hxy hx8 hy8 HI e1 e2 hboth
        go_wp2_with fail
        go_quiet (fail)
        go_wp2_with fail
        obtain ⟨W, hW⟩ : ∃ W, wr.drewN nq = W := ⟨_, rfl⟩
        have HBW := Lib.hid (show ∃ m, W = w.drewN m by rw [← hW]; exact drewN_moreE HB.out nq)
        rw [hW]
        clear hW
        go_quiet (fail)
        go_wp2_with fail
        go_ret
        exact ⟨rfl, drewN_moreE HBW.out _⟩
    · have hn := HI.out
      rw [lessL_end (by omega) (by omega) (by omega)] at hn
      have q6 : decide ((s.size : Int) < (t.size : Int)) = RES := by rw [← hn]; exact decide_eq_decide.2 (by omega)
      have q7 : decide (s.size < t.size) = RES := by rw [← hn]; exact decide_eq_decide.2 (by omega)
      by_cases hl : i < a.length
      · have q1 : decide ((i : Int) < (s.size : Int)) = true := by rw [decide_eq_true_eq]; omega
        have q2 : decide (i < s.size) = true := by rw [decide_eq_true_eq]; omega
        have q3 : decide ((i : Int) < (t.size : Int)) = false := by rw [decide_eq_false_iff_not]; omega
        have q4 : decide (i < t.size) = false := by rw [decide_eq_false_iff_not]; omega
        clear hn HI e1 e2 hboth hl
        go_wp2_with fail
        go_ret
        exact ⟨rfl, HB.out⟩
      · have q1 : decide ((i : Int) < (s.size : Int)) = false := by rw [decide_eq_false_iff_not]; omega
        have q2 : decide (i < s.size) = false := by rw [decide_eq_false_iff_not]; omega
        clear hn HI e1 e2 hboth hl
        go_wp2_with fail
        go_ret
        exact ⟨rfl, HB.out⟩

end Go.Proofs.Ytgacfihidpijeaa.EV
