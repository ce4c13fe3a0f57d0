/-
  Fold, the code's: what it returns, by the plain lists. Condition: texts of at most a million bytes.
-/
import Derived.Test.YtnacfdcnhecjeaaUtfRunes
import Derived.Test.YtnacfdcnhecjeaaUtfLower
import Derived.Test.YtnacfdcnhecjeaaUtfWord
import Derived.Deep.QuietTactic
import Derived.BigQuiet
set_option linter.unusedVariables false
namespace Go.Proofs.Ytnacfdcnhecjeaa.UM
open Go.RowKit

theorem OwnInts.shape {B : Nat} {w : World} {v : Value} {zs : List Int} (h : OwnInts B w v zs) : ∃ (p : Option Addr) (cap : Nat), v = .slice p zs.length cap ∧ (zs = [] ∨ ∃ g, p = some ⟨g, 0, none⟩ ∧ B ≤ g ∧ g < w.heap.size) := by
  rcases h.2 with ⟨rfl, h0⟩ | ⟨g, cap, cur, rfl, hg, hh, hn, hm, hs, ht⟩
  · exact ⟨none, 0, by rw [h0], .inl (List.eq_nil_of_length_eq_zero h0)⟩
  · exact ⟨_, cap, rfl, .inr ⟨g, rfl, hg, (Array.getElem?_eq_some_iff.1 hh).1⟩⟩
theorem OwnInts.below {B : Nat} {w w' : World} {v : Value} {zs : List Int} (h : OwnInts B w v zs) (hb : Below w.heap.size w w') : OwnInts B w' v zs := by
  refine ⟨h.1, ?_⟩
  rcases h.2 with h0 | ⟨g, cap, cur, hv, hg, hh, rest⟩
  · exact .inl h0
  · exact .inr ⟨g, cap, cur, hv, hg, by rw [hb.block g (Array.getElem?_eq_some_iff.1 hh).1]; exact hh, rest⟩

/-- The row when k of its numbers have been turned. -/
def half (zs : List Int) (k : Nat) : List Int := (zs.take k).map lowerZ ++ zs.drop k
theorem half_zero (zs : List Int) : half zs 0 = zs := by simp [half]
theorem half_all (zs : List Int) : half zs zs.length = zs.map lowerZ := by simp [half]
theorem half_length (zs : List Int) (k : Nat) : (half zs k).length = zs.length := by simp [half]; omega
theorem half_at (zs : List Int) (k : Nat) (h : k < zs.length) : (half zs k)[k]? = some (zs.getD k 0) := by
  unfold half
  rw [List.getElem?_append_right (by simp; omega)]
  have hm : min k zs.length = k := by omega
  simp [hm, List.getD, h]
theorem half_set (zs : List Int) (k : Nat) (h : k < zs.length) : (half zs k).set k (lowerZ (zs.getD k 0)) = half zs (k + 1) := by
  unfold half
  rw [List.set_append_right _ _ (by simp; omega)]
  have hm : min k zs.length = k := by omega
  rw [List.take_succ_eq_append_getElem h, List.map_append, List.append_assoc]
  congr 1
  simp only [List.length_map, List.length_take, hm, Nat.sub_self]
  rw [List.drop_eq_getElem_cons h, List.set_cons_zero]
  simp [List.getD, h]

/-- What the loop's round has in hand: the row at k, and what the store leaves. -/
theorem half_cell {B : Nat} {w : World} {g cap : Nat} {zs : List Int} {k : Nat} (hk : k < zs.length) (h : OwnInts B w (.slice (some ⟨g, 0, none⟩) zs.length cap) (half zs k)) :
    w.cell? ⟨g, k, none⟩ = some (.int .i64 (zs.getD k 0)) ∧ w.frozen? ⟨g, k, none⟩ = false := by
  have h2 : w.ownsRow B 3 1 (.slice (some ⟨g, 0, none⟩) zs.length cap) zs.length ((half zs k).map (Value.int .i64)) := by
    have h3 := h; unfold OwnInts at h3; rw [half_length] at h3; exact h3
  refine ⟨?_, h2.frozenAt k⟩
  rw [h2.cellAt k (by omega), List.getElem?_map, half_at zs k hk]
  rfl
theorem half_store {B : Nat} {w : World} {g cap : Nat} {zs : List Int} {k : Nat} (hk : k < zs.length) (h : OwnInts B w (.slice (some ⟨g, 0, none⟩) zs.length cap) (half zs k)) :
    OwnInts B (w.setCell ⟨g, k, none⟩ (.int .i64 (lowerZ (zs.getD k 0)))) (.slice (some ⟨g, 0, none⟩) zs.length cap) (half zs (k + 1)) := by
  have h2 : w.ownsRow B 3 1 (.slice (some ⟨g, 0, none⟩) zs.length cap) zs.length ((half zs k).map (Value.int .i64)) := by
    have h3 := h; unfold OwnInts at h3; rw [half_length] at h3; exact h3
  have h4 := (h2.stored k (.int .i64 (lowerZ (zs.getD k 0)))).1
  rw [← List.map_set, half_set zs k hk] at h4
  unfold OwnInts
  rw [half_length]
  exact h4

theorem runes_bd (l : List UInt8) (k : Nat) (h : k < (runesL l).length) : 0 ≤ (runesL l).getD k 0 ∧ (runesL l).getD k 0 ≤ 1114111 := by
  have h1 : (runesL l).getD k 0 ∈ runesL l := by
    have e : (runesL l).getD k 0 = (runesL l)[k] := by simp [List.getD, h]
    rw [e]; exact List.getElem_mem h
  have h2 := runes_good l _ h1
  have h3 := norm_good ((runesL l).getD k 0)
  rw [h2] at h3
  omega

set_option maxRecDepth 100000 in
set_option maxHeartbeats 2000000 in
theorem fold_any (s : ByteArray) (w : World) (hs : s.size ≤ 1000000) :
    Calls Try.prog 22 #[.string s] w fun e w' => e = .returned (.string ⟨(foldL s.data.toList).toArray⟩) ∧ Below w.heap.size w w' := by
  have hrun := runes_any s w hs
  have hbd := runes_bd s.data.toList
  have hlen := runesL_length s.data.toList
  rw [← Lib.size_eq] at hlen
  have hen := fun V W h => enc_any V ((runesL s.data.toList).map lowerZ) W h (by rw [List.length_map]; omega)
  unfold RunesLeft at hrun
  have HE := Lib.hid hen
  have hfold : foldL s.data.toList = encL ((runesL s.data.toList).map lowerZ) := rfl
  rw [hfold]
  obtain ⟨zs, hz⟩ : ∃ zs, runesL s.data.toList = zs := ⟨_, rfl⟩
  rw [hz] at hrun hbd hlen HE ⊢
  have HR := Lib.hid hrun
  clear hrun hen hfold hz
  go_enter Try.func22, Try.ntmps22
  go_wp2_with fail
  refine HR.out.mono ?_
  rintro e w1 ⟨v, rfl, hown, hb1⟩
  obtain ⟨p, cap, rfl, hp⟩ := hown.shape
  have hz1 := hb1.size
  have HP := Lib.hid hp
  clear hp
  go_wp2
  go_loopw [10] (fun i wr => ∃ k : Nat, k ≤ zs.length ∧ i = .int .i64 k ∧ OwnInts w.heap.size wr (.slice p zs.length cap) (half zs k) ∧ Below w.heap.size w wr) (fun i _ => zs.length - (intOf i).toNat)
  case atStart => exact ⟨0, Nat.zero_le _, rfl, by rw [half_zero]; exact hown, hb1⟩
  case round =>
    obtain ⟨k, hk, rfl, hown2, hb⟩ := hrel
    clear hown hb1
    have hsz := hb.size
    by_cases hlt : k < zs.length
    · rcases HP.out with h | ⟨g, rfl, hBg, hgl⟩
      · subst h; exact absurd hlt (by simp)
      have hcell := (half_cell hlt hown2).1
      have hlow := fun W => lower_any (zs.getD k 0) W
      have hst := fun W h => half_store (w := W) (B := w.heap.size) (g := g) (cap := cap) hlt h
      have hfr := fun W h => half_cell (w := W) (B := w.heap.size) (g := g) (cap := cap) hlt h
      obtain ⟨r, hr⟩ : ∃ r, zs.getD k 0 = r := ⟨_, rfl⟩
      rw [hr] at hcell
      simp only [hr] at hlow hst hfr
      obtain ⟨q, hq⟩ : ∃ q, lowerZ r = q := ⟨_, rfl⟩
      simp only [hq] at hlow hst
      have HLow := Lib.hid hlow
      have HSt := Lib.hid hst
      have HFr := Lib.hid hfr
      have HO := Lib.hid hown2
      have HB := Lib.hid hbd
      clear hlow hst hfr hown2 hr hq hbd
      go_wp2_with fail
      refine (HLow.out _).mono ?_
      rintro e w2 ⟨rfl, hb2⟩
      have hown3 := HO.out.below hb2
      have hb3 := hb.trans (hb2.mono hsz)
      have hsz3 := hb2.size
      obtain ⟨hc3, hf3⟩ := HFr.out _ hown3
      have HO3 := Lib.hid (HSt.out _ hown3)
      have hb4 := hb3.setCell (p := ⟨g, k, none⟩) hBg (.int .i64 q)
      clear hown3 hcell
      go_wp2
      go_roundw
      case rel => exact ⟨k + 1, by omega, by go_num, HO3.out, hb4⟩
      case measure => simp [intOf]; omega
    · obtain rfl : k = zs.length := by omega
      rw [half_all] at hown2
      have hrow := hown2.row
      clear hbd
      go_wp2_with fail
      refine (HE.out _ _ hrow).mono ?_
      rintro e w2 ⟨rfl, hb2⟩
      go_wp2
      go_ret
      exact ⟨rfl, hb.trans (hb2.mono hsz)⟩
end Go.Proofs.Ytnacfdcnhecjeaa.UM
