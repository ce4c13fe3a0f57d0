/-
  The entries of a block, the code's. Condition: none (the block's bytes are fewer than 2^47, as all bytes are).
-/
import Derived.Test.YtklngjnjnkocmaaZA32
set_option linter.unusedVariables false
namespace Go.Proofs.Ytklngjnjnkocmaa.DT
open Go Go.RowKit Go.Proofs.Ytklngjnjnkocmaa.MM Go.Proofs.Ytklngjnjnkocmaa.DM Go.Proofs.Ytklngjnjnkocmaa.VM

/-- Entries, and whether they may be a block's. -/
def EntsOk (s : List Ent × List UInt8 × Bool) (w : World) (e : Ending) (w' : World) : Prop :=
  ∃ v', e = .returned (.tuple #[v', .bool (!s.2.2 && decide (s.2.1 = []))]) ∧ OwnX entC 42 w.heap.size (fun _ => False) w' v' s.1 ∧ Below w.heap.size w w'

theorem ownx_base {α : Type} {C : Codec α} {e : TypeId} {B B' : Nat} {S : Nat → Prop} {w : World} {v : Value} {es : List α} (h : OwnX C e B S w v es) (hB : B' ≤ B) : OwnX C e B' S w v es := by
  obtain ⟨raw, h1, h2⟩ := h
  refine ⟨raw, ⟨h1.1, ?_⟩, h2⟩
  rcases h1.2 with h0 | ⟨g, cap, cur, hv, hg, rest⟩
  · exact .inl h0
  · exact .inr ⟨g, cap, cur, hv, Nat.le_trans hB hg, rest⟩
def lenV : Value → Nat | .slice _ n _ => n | _ => 0
theorem ents_nil (f : Nat) (A : List UInt8) (acc : List Ent) (o : Bool) : entsSt f A acc [] o = (acc, [], o) := by cases f <;> simp [entsSt]
theorem ents_next {f : Nat} {A L : List UInt8} {acc : List Ent} {o : Bool} (hl : L ≠ []) (hf : 0 < f) : entsSt f A acc L o = entsSt (f - 1) (entSt A L o).1.1 (acc ++ [(entSt A L o).1]) (entSt A L o).2.1 (entSt A L o).2.2 := by
  obtain ⟨f, rfl⟩ : ∃ g, f = g + 1 := ⟨f - 1, by omega⟩
  rw [entsSt, if_neg hl]
  rfl

theorem ents_end {w wr : World} {s : List Ent × List UInt8 × Bool} {lv : Value} {b : Bool} (ho : OwnX entC 42 w.heap.size (fun _ => False) wr lv s.1) (hb : Below w.heap.size w wr) (h : (!s.2.2 && decide (s.2.1 = [])) = b) (m : Nat) : EntsOk s w (.returned (.tuple #[lv, .bool b])) (wr.drewN m) :=
  ⟨lv, by rw [h], ho.keep (kep_below (fun _ => True) (MM.below_drewN (Below.refl _ _) m)) (fun _ _ h => trivial) (fun _ _ => trivial), MM.below_drewN hb m⟩
set_option maxRecDepth 100000 in
set_option maxHeartbeats 4000000 in
theorem entsof_any (B : Nat) (v : Value) (l : List UInt8) (w : World) (hv : BIn B w v l) (hB : B ≤ w.heap.size) : Calls Try.prog 35 #[v] w (EntsOk (entsSt 16 [] [] l false) w) := by
  obtain ⟨R, hR⟩ : ∃ R, w.heap.size = R := ⟨_, rfl⟩
  obtain ⟨p0, c0, rfl, _⟩ := hv.shape
  obtain ⟨wa, hwa⟩ : ∃ wa, w.alloc (.cells #[.slice p0 l.length c0, .bool false] 71) = wa := ⟨_, rfl⟩
  have hba : Below w.heap.size w wa := by rw [← hwa]; exact (Below.refl _ _).alloc (Nat.le_refl _) _
  have HRA : Hid (Rd B wa R l false) := Lib.hid (by
    refine ⟨.slice p0 l.length c0, ?_, hv.below (hba.mono hB)⟩
    rw [← hwa, ← hR]
    exact heap_alloc_new _ _)
  have HBA : Hid (Below w.heap.size w wa) := Lib.hid hba
  have HSA : Hid (wa.heap.size = R + 1) := Lib.hid (by rw [← hwa, ← hR]; simp)
  obtain ⟨FIN, hF⟩ : ∃ f, entsSt 16 [] [] l false = f := ⟨_, rfl⟩
  have HF0 := Lib.hid hF
  rw [hF]
  have HO0 := Lib.hid (OwnX.nil_ (C := entC) 42 (R + 1) (fun _ => False) wa)
  have HENT := Lib.hid (fun A l o W (hA : A.length ≤ 65) (h : Rd B W R l o) => entr_any B R A l o W hA h (by omega))
  have HBR : Hid (B ≤ R) := Lib.hid (by omega)
  have HWA := Lib.hid hwa
  clear hwa hba hv hB hF
  go_enter Try.func35, Try.ntmps35
  go_wp2_with fail
  rw [HWA.out]
  go_loopw [2, 5] (fun lv av wr => ∃ (acc : List Ent) (A : List UInt8) (L : List UInt8) (o : Bool), av = .string ⟨A.toArray⟩ ∧ A.length ≤ 65 ∧ acc.length ≤ 16 ∧ Hid (entsSt (16 - acc.length) A acc L o = FIN) ∧ Hid (Rd B wr R L o) ∧ Hid (OwnX entC 42 (R + 1) (fun _ => False) wr lv acc) ∧ Hid (Below w.heap.size w wr) ∧ Hid (R + 1 ≤ wr.heap.size)) (fun lv _ _ => 16 - (lenV lv))
  case atStart => exact ⟨[], [], l, false, rfl, by simp, by simp, HF0, HRA, HO0, HBA, Lib.hid (by have := HSA.out; omega)⟩
  case round =>
    obtain ⟨acc, A, L, o, rfl, hA, hacc, HF, HRD, HO, HBW, HSW⟩ := hrel
    clear HF0 HRA HO0 HBA HSA HWA
    obtain ⟨pl, cl, rfl, hlc, hlm, _⟩ := HO.out.any.shape
    obtain ⟨v0, hc0, hv0⟩ := HRD.out
    obtain ⟨p1, c1, rfl, _⟩ := hv0.shape
    have f0 : wr.cell? ⟨R, 0, none⟩ = some (.slice p1 L.length c1) := by rw [cell_of_row wr R 0 _ _ _ hc0]; rfl
    have f1 : wr.cell? ⟨R, 1, none⟩ = some (.bool o) := by rw [cell_of_row wr R 1 _ _ _ hc0]; rfl
    clear hc0 hv0
    obtain ⟨n, hn⟩ : ∃ n, L.length = n := ⟨_, rfl⟩
    rw [hn] at f0
    have HN := Lib.hid hn
    have HOI := HO
    by_cases hL : n = 0
    · have hLe : L = [] := List.eq_nil_of_length_eq_zero (by omega)
      have hfin := HF.out
      rw [hLe, ents_nil] at hfin
      have q1 : decide ((n : Int) > 0) = false := by rw [decide_eq_false_iff_not]; omega
      have q2 : decide (0 < n) = false := by rw [decide_eq_false_iff_not]; omega
      have q3 : ((n : Int) == 0) = true := by rw [beq_iff_eq]; omega
      subst hfin
      cases o with
      | true =>
        clear hn hL hLe HN HF HENT HRD
        go_wp2_with fail
        go_quiet (fail)
        go_wp2_with fail
        go_ret2
        exact ents_end (ownx_base HO.out (by omega)) HBW.out (by rfl) _
      | false =>
        clear hn hL hLe HN HF HENT HRD
        go_wp2_with fail
        go_quiet (fail)
        go_wp2_with fail
        go_ret2
        exact ents_end (ownx_base HO.out (by omega)) HBW.out (by rfl) _
    · have hLe : L ≠ [] := fun e => hL (by rw [← hn, e]; rfl)
      have q1 : decide ((n : Int) > 0) = true := by rw [decide_eq_true_eq]; omega
      have q2 : decide (0 < n) = true := by rw [decide_eq_true_eq]; omega
      have q5 : ((n : Int) == 0) = false := by rw [beq_eq_false_iff_ne]; omega
      by_cases h16 : acc.length = 16
      · have q3 : decide ((acc.length : Int) < 16) = false := by rw [decide_eq_false_iff_not]; omega
        have q4 : decide (acc.length < 16) = false := by rw [decide_eq_false_iff_not]; omega
        have hfin := HF.out
        rw [h16, Nat.sub_self] at hfin
        rw [show entsSt 0 A acc L o = (acc, L, o) from rfl] at hfin
        subst hfin
        have HLE := Lib.hid hLe
        cases o with
        | true =>
          clear hn hL hLe h16 HN HF HENT HRD
          go_wp2_with fail
          go_quiet (fail)
          go_wp2_with fail
          go_ret2
          exact ents_end (ownx_base HO.out (by omega)) HBW.out (by have := HLE.out; simp [this]) _
        | false =>
          clear hn hL hLe h16 HN HF HENT HRD
          go_wp2_with fail
          go_quiet (fail)
          go_wp2_with fail
          go_ret2
          exact ents_end (ownx_base HO.out (by omega)) HBW.out (by have := HLE.out; simp [this]) _
      · have q3 : decide ((acc.length : Int) < 16) = true := by rw [decide_eq_true_eq]; omega
        have q4 : decide (acc.length < 16) = true := by rw [decide_eq_true_eq]; omega
        have hfin := HF.out
        rw [ents_next hLe (by omega), show 16 - acc.length - 1 = 16 - (acc.length + 1) by omega] at hfin
        have HCALL := HENT.out A L o wr hA HRD.out
        have hwd := ent_w hA L o
        obtain ⟨⟨⟨X1, x2, x3, x4⟩, L4, o4⟩, hX⟩ : ∃ s, entSt A L o = s := ⟨_, rfl⟩
        rw [hX] at hfin HCALL hwd
        dsimp only at hfin HCALL
        unfold entV at HCALL
        dsimp only at HCALL
        have HC := Lib.hid HCALL
        have HF4 := Lib.hid hfin
        have HX1 : Hid (X1.length ≤ 65) := Lib.hid hwd.1
        have HLT : Hid (acc.length < 16) := Lib.hid (by omega)
        clear hfin HCALL hwd hX hLe hn hL h16 HN HF HRD
        go_wp2_with fail
        refine HC.out.mono ?_
        rintro e w4 ⟨rfl, h4, k4⟩
        have hs4 := k4.size
        obtain ⟨q, hq⟩ : ∃ q, w4.heap.size = q := ⟨_, rfl⟩
        have hRq : R + 1 ≤ q := by have := HSW.out; omega
        have huq : ∀ g, (Value.slice pl acc.length cl).ownBlock = some g → R + 1 ≤ g ∧ g < wr.heap.size := fun g hg => by have := HO.out.cells hg; omega
        have o4' := HO.out.keep k4 (fun _ _ h => h.elim) (fun g hg => by have := huq g hg; omega)
        have hq4 : Below w.heap.size w w4 := HBW.out.trans (k4.below (B := w.heap.size) (by have := HSW.out; omega) (fun b hb => by omega))
        obtain ⟨w5, hw5⟩ : ∃ W, w4.alloc (.cells #[.string ⟨X1.toArray⟩, .int .i64 x2, .int .i64 x3, .int .i64 x4] 42) = W := ⟨_, rfl⟩
        have hb5 : Below w4.heap.size w4 w5 := by rw [← hw5]; exact (Below.refl _ _).alloc (Nat.le_refl _) _
        have F5 : Hid (Four w5 q 42 (.string ⟨X1.toArray⟩) (.int .i64 x2) (.int .i64 x3) (.int .i64 x4)) := Lib.hid (by rw [← hw5, ← hq]; exact four_new w4 42 _ _ _ _)
        have hs5 : w5.heap.size = q + 1 := by rw [← hw5, ← hq]; simp
        obtain ⟨w6, hw6⟩ : ∃ W, w5.alloc (.cells #[.string ⟨X1.toArray⟩, .int .i64 x2, .int .i64 x3, .int .i64 x4] 42) = W := ⟨_, rfl⟩
        have hb6 : Below w5.heap.size w5 w6 := by rw [← hw6]; exact (Below.refl _ _).alloc (Nat.le_refl _) _
        have hs6 : w6.heap.size = q + 2 := by rw [← hw6]; simp [hs5]
        have hsr := src_lit (C := entC) (S := fun _ => False) (w := w5) (vs := [.string ⟨X1.toArray⟩, .int .i64 x2, .int .i64 x3, .int .i64 x4]) (d := (X1, (x2, (x3, x4)))) 42 (ent_on.2 rfl)
        rw [hw6, hs5] at hsr
        have HS6 := Lib.hid hsr
        have HO6 := Lib.hid ((o4'.keep (kep_below (fun _ => True) hb5) (fun _ _ h => h.elim) (fun _ _ => trivial)).keep (kep_below (fun _ => True) hb6) (fun _ _ h => h.elim) (fun _ _ => trivial))
        have HB6 := Lib.hid ((hq4.trans (hb5.mono (by omega))).trans (hb6.mono (by omega)))
        have HR6 := Lib.hid (Rd.keep (Rd.keep h4 (S := fun _ => True) (kep_below _ hb5) trivial (fun _ _ => trivial) (by have := HBR.out; omega)) (S := fun _ => True) (kep_below _ hb6) trivial (fun _ _ => trivial) (by have := HBR.out; omega))
        have F6 := Lib.hid (F5.out.below hb6 (by omega))
        have HUQ := Lib.hid huq
        have HW5 := Lib.hid hw5
        have HW6 := Lib.hid hw6
        have HS6W := Lib.hid hs6
        clear hsr hw5 hw6 hb5 hb6 h4 k4 o4' hq4 huq HO HOI HBW HC HSW F5 hs6
        go_wp2_with (at_builtin; go_loud (rw [HW5.out, HW6.out]; refine wpList_append_x entE rfl _ _ rfl (R + 1) (.slice pl acc.length cl) acc rfl HO6.out (fun _ _ h => h.elim) _ [(X1, (x2, (x3, x4)))] rfl HS6.out (by unfold maxLen; have := HLT.out; simp; omega) (by have := HLT.out; simp; omega) (by have := HS6W.out; omega) ?_; intro v7 w7 ho7 hb7 hk7; obtain ⟨p7, c7, rfl, _⟩ := ho7.any.shape; have g7 := F6.out.keep hk7 (fun e => by have := HUQ.out q e; omega); have e0 := g7.c0; have HO7 := Lib.hid ho7; have HB7 := Lib.hid (HB6.out.trans (hb7.mono (by omega))); have HR7 := Lib.hid (HR6.out.keep hk7 (fun e => by have := HUQ.out R e; omega) (fun k hk e => by have := HUQ.out k e; have := HBR.out; omega) (by have := HBR.out; have := HS6W.out; omega)); have hs7 := hk7.size; have HS7 : Hid (R + 1 ≤ w7.heap.size) := Lib.hid (by have := HS6W.out; omega); clear ho7 hb7 hk7 g7 HO6 HS6 HB6 HR6 F6 HW5 HW6 HUQ))
        have hlt := HLT.out
        rw [show (acc ++ [(X1, (x2, (x3, x4)))]).length = acc.length + 1 by simp] at HO7
        have HF8 : Hid (entsSt (16 - (acc ++ [(X1, (x2, (x3, x4)))]).length) X1 (acc ++ [(X1, (x2, (x3, x4)))]) L4 o4 = FIN) := Lib.hid (by rw [List.length_append]; exact HF4.out)
        go_roundw
        case rel => exact ⟨acc ++ [(X1, (x2, (x3, x4)))], X1, L4, o4, rfl, HX1.out, by simp; omega, HF8, HR7, HO7, HB7, HS7⟩
        case measure => simp [lenV]; omega
end Go.Proofs.Ytklngjnjnkocmaa.DT
