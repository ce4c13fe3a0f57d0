/-
  What the code's Read hands out is the call's own. Condition: names and bytes are no longer than memory bears.
-/
import Derived.Test.YtlphleajgdibgaaDskRead2
set_option linter.unusedVariables false
set_option linter.unusedSimpArgs false
namespace Go.Proofs.Ytlphleajgdibgaa.DK
open Go.RowKit Go.Proofs.Ytlphleajgdibgaa.MM Go.Maps

def PartO (r : List UInt8 × Int) (w : World) (e : Ending) (w' : World) : Prop := ∃ v, e = .returned (.tuple #[v, .int .i64 r.2]) ∧ OwnB w.heap.size w' v r.1 ∧ Below w.heap.size w w'
set_option maxRecDepth 100000 in
set_option maxHeartbeats 1000000 in
theorem part_own (v : Value) (l : List UInt8) (a m : Int) (w : World) (h : BRow w v l) (hl : l.length ≤ 1000000000000) (ha0 : -9223372036854775808 ≤ a) (ha1 : a ≤ 9223372036854775807) (hm0 : -9223372036854775808 ≤ m) (hm1 : m ≤ 9223372036854775807) :
    Calls Try.prog 45 #[v, .int .i64 a, .int .i64 m] w (PartO (partD l a m) w) := by
  obtain ⟨p, cap, rfl, hlc, hcm⟩ := h.shape
  unfold maxLen at hcm
  obtain ⟨R, hR⟩ : ∃ R, partD l a m = R := ⟨_, rfl⟩
  rw [hR]
  unfold partD at hR
  have HR := Lib.hid hR
  clear hR
  have HN := Lib.hid (show ∀ k, PartO ([], k) w (.returned (.tuple #[.slice none 0 0, .int .i64 k])) w from fun k => ⟨_, rfl, World.ownsRow_nil _ _ _ _, Below.refl _ _⟩)
  obtain hc | hc | hc | hc : a < 0 ∨ (0 ≤ a ∧ (l.length : Int) < a) ∨ (0 ≤ a ∧ a ≤ (l.length : Int) ∧ m < 0) ∨ (0 ≤ a ∧ a ≤ (l.length : Int) ∧ 0 ≤ m) := by omega
  · obtain rfl : R = ([], 5) := by rw [← HR.out, if_pos (.inl hc)]
    have t1 : decide (a < 0) = true := by rw [decide_eq_true_eq]; omega
    clear HR h
    go_enter Try.func45, Try.ntmps45
    go_wp2_with fail
    go_ret2
    exact HN.out 5
  · obtain rfl : R = ([], 5) := by rw [← HR.out, if_pos (.inr (.inl hc.2))]
    have t1 : decide (a < 0) = false := by rw [decide_eq_false_iff_not]; omega
    have t2 : decide (a > (l.length : Int)) = true := by rw [decide_eq_true_eq]; omega
    clear HR h
    go_enter Try.func45, Try.ntmps45
    go_wp2_with fail
    go_ret2
    exact HN.out 5
  · obtain rfl : R = ([], 5) := by rw [← HR.out, if_pos (.inr (.inr hc.2.2))]
    have t1 : decide (a < 0) = false := by rw [decide_eq_false_iff_not]; omega
    have t2 : decide (a > (l.length : Int)) = false := by rw [decide_eq_false_iff_not]; omega
    have t3 : decide (m < 0) = true := by rw [decide_eq_true_eq]; omega
    clear HR h
    go_enter Try.func45, Try.ntmps45
    go_wp2_with fail
    go_ret2
    exact HN.out 5
  · obtain ⟨i, rfl⟩ : ∃ i : Nat, a = (i : Int) := ⟨a.toNat, by omega⟩
    obtain ⟨j, rfl⟩ : ∃ j : Nat, m = (j : Int) := ⟨m.toNat, by omega⟩
    have hi : i ≤ l.length := by omega
    obtain ⟨q, hq⟩ : ∃ q, min j (l.length - i) = q := ⟨_, rfl⟩
    obtain rfl : R = ((l.drop i).take q, 0) := by
      rw [← HR.out, if_neg (by omega), ← hq]
      simp only [Int.toNat_natCast]
      congr 1
      rw [List.take_eq_take_iff, List.length_drop]
      omega
    have hqm : (if (l.length - i : Nat) < j then ((l.length - i : Nat) : Int) else (j : Int)) = (q : Int) := by rw [← hq]; split <;> omega
    have hq1 : q ≤ l.length - i := by omega
    have hD := BIn.drop3 h i hi
    have HD1 := Lib.hid (fun e => (hD.1 e).take q hq1)
    have HD2 := Lib.hid (fun e => (hD.2 e).take q hq1)
    have hwr : IntKind.i64.wrap ((l.length : Int) - (i : Int)) = ((l.length - i : Nat) : Int) := by rw [IntKind.wrap_i64]; omega
    have t1 : decide ((i : Int) < 0) = false := by rw [decide_eq_false_iff_not]; omega
    have t2 : decide ((i : Int) > (l.length : Int)) = false := by rw [decide_eq_false_iff_not]; omega
    have t3 : decide ((j : Int) < 0) = false := by rw [decide_eq_false_iff_not]; omega
    have hx : ((l.drop i).take q).length = q := by rw [List.length_take, List.length_drop]; omega
    have hx2 : ((l.drop i).take q).length ≤ 1000000000000 := by omega
    obtain ⟨X, hX⟩ : ∃ X, (l.drop i).take q = X := ⟨_, rfl⟩
    rw [hX] at HD1 HD2 hx2 ⊢
    clear hq hD hc HR h hX hx
    go_enter Try.func45, Try.ntmps45
    go_wp2_with fail
    case inl =>
      refine (clone_any _ X _ (HD1.out (by assumption)) hx2).mono ?_
      rintro e w1 ⟨v1, rfl, hown, hb⟩
      have HF := Lib.hid (show PartO (X, 0) w (.returned (.tuple #[v1, .int .i64 0])) w1 from ⟨_, rfl, hown, hb⟩)
      clear hown hb
      go_wp2_with fail
      go_ret2
      exact HF.out
    case inr =>
      refine (clone_any _ X _ (HD2.out (by assumption)) hx2).mono ?_
      rintro e w1 ⟨v1, rfl, hown, hb⟩
      have HF := Lib.hid (show PartO (X, 0) w (.returned (.tuple #[v1, .int .i64 0])) w1 from ⟨_, rfl, hown, hb⟩)
      clear hown hb
      go_wp2_with fail
      go_ret2
      exact HF.out
set_option maxRecDepth 100000 in
theorem cread_own (S : Nat → Prop) (g mb : Nat) (V : List UInt8 → Value) (c : Int) (d : DiskD) (n : List UInt8) (a m : Int) (w : World) (h : CObj S w g mb V c d) (hF : Fits d) (hn : n.length ≤ 1000000000000)
    (ha0 : -9223372036854775808 ≤ a) (ha1 : a ≤ 9223372036854775807) (hm0 : -9223372036854775808 ≤ m) (hm1 : m ≤ 9223372036854775807) :
    Calls Try.prog 15 #[.pointer (some ⟨g, 0, none⟩), .string ⟨n.toArray⟩, .int .i64 a, .int .i64 m] w (PartO (creadD d n a m) w) := by
  have hfind := cfind_any S 0 g mb V c d (.slice none 0 0) [] n w h (Nat.zero_le _) hn (SIn.nil_ _ _) (by simp) (by simp)
  rw [ok_one] at hfind
  obtain ⟨p, cap, hv, _, _⟩ := own_slice (cur_own h.tab n)
  have hcl : (curB d n).length ≤ 67108864 := by
    unfold curB
    cases hf : findL d.L n with
    | none => simp
    | some f => exact hF.bytes f (find_mem hf).1
  have hrow := cur_own h.tab n
  unfold FindC at hfind
  unfold creadD
  rw [hv] at hfind hrow
  have HP := Lib.hid (fun W (hW : Below w.heap.size w W) => part_own _ (curB d n) a m W (BRow.below hrow.brow hW) (by omega) ha0 ha1 hm0 hm1)
  generalize findE (namedL n) d.stopped (findL d.L n).isSome = E at *
  generalize partD (curB d n) a m = R at *
  generalize (curB d n).length = ln at *
  generalize (curS d n : Int) = sn at *
  have HFI := Lib.hid hfind
  clear hfind h hv hrow
  by_cases h0 : E = 0
  · subst h0
    rw [if_pos rfl]
    rw [if_pos rfl] at HFI
    go_enter Try.func15, Try.ntmps15
    go_wp2_with fail
    refine HFI.out.mono ?_
    rintro e W1 ⟨rfl, hb1⟩
    have HB := Lib.hid (fun o => hb1.alloc hb1.size o)
    clear hb1 HFI
    go_wp2_with fail
    refine (HP.out _ (HB.out _)).mono ?_
    rintro e w2 ⟨v2, rfl, hr2, hb2⟩
    have HF := Lib.hid (show PartO R w (.returned (.tuple #[v2, .int .i64 R.2])) w2 from ⟨_, rfl, hr2.weaken (HB.out _).size, (HB.out _).trans (hb2.mono (HB.out _).size)⟩)
    clear hr2 hb2
    go_wp2_with fail
    go_ret2
    exact HF.out
  · have t1 : (E == 0) = false := by rw [beq_eq_false_iff_ne]; exact h0
    have t2 : (E != 0) = true := by simp [bne, t1]
    rw [if_neg h0]
    rw [if_neg h0] at HFI
    clear h0 HP
    go_enter Try.func15, Try.ntmps15
    go_wp2_with fail
    refine HFI.out.mono ?_
    rintro e W1 ⟨rfl, hb1⟩
    have HF := Lib.hid (show ∀ o, PartO ([], E) w (.returned (.tuple #[.slice none 0 0, .int .i64 E])) (W1.alloc o) from fun o => ⟨_, rfl, World.ownsRow_nil _ _ _ _, hb1.alloc hb1.size o⟩)
    clear hb1 HFI
    go_wp2_with fail
    go_ret2
    exact HF.out _

end Go.Proofs.Ytlphleajgdibgaa.DK
