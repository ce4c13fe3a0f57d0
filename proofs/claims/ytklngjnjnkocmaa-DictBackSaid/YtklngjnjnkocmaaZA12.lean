/-
  Entries in memory; what is found among them, as plain lists say it. No condition. A text's bytes, one by one. No condition. few, cut of layer 11's statements. No condition.
-/
import Derived.Test.YtklngjnjnkocmaaZA5
import Derived.Test.YtklngjnjnkocmaaZA11
import Derived.Test.YtklngjnjnkocmaaZA1
import Derived.Deep.QuietTactic
import Derived.BigQuiet
set_option linter.unusedVariables false
namespace Go.Proofs.Ytklngjnjnkocmaa.DT
open Go Go.RowKit Go.Proofs.Ytklngjnjnkocmaa.MM Go.Proofs.Ytklngjnjnkocmaa.DM
open Go.Proofs.Ytklngjnjnkocmaa.EM (lessL)

def entC : Codec Ent := cPair cStr (cPair cInt (cPair cInt cInt))
theorem ent_size : entC.size = 4 := rfl
/-- An entry as a value. -/
def entV (x : Ent) : Value := .agg #[.string ⟨x.1.toArray⟩, .int .i64 x.2.1, .int .i64 x.2.2.1, .int .i64 x.2.2.2]
theorem ent_on {S : Nat → Prop} {w : World} {cs : List Value} {x : Ent} : entC.on S w cs x ↔ cs = [.string ⟨x.1.toArray⟩, .int .i64 x.2.1, .int .i64 x.2.2.1, .int .i64 x.2.2.2] := by
  constructor
  · rintro ⟨a, b, rfl, ha, c, d, rfl, hc, e, f, rfl, he, hf⟩
    have ha : a = [.string ⟨x.1.toArray⟩] := ha
    have hc : c = [.int .i64 x.2.1] := hc
    have he : e = [.int .i64 x.2.2.1] := he
    have hf : f = [.int .i64 x.2.2.2] := hf
    rw [ha, hc, he, hf]; rfl
  · rintro rfl
    exact ⟨[_], [_, _, _], rfl, rfl, [_], [_, _], rfl, rfl, [_], [_], rfl, rfl, rfl⟩
/-- The k-th entry's four cells. -/
theorem ent_at {S : Nat → Prop} {w : World} {p : Option Addr} {n cap : Nat} {l : List Ent} (h : ROn entC S w (.slice p n cap) l) {k : Nat} (hk : k < l.length) :
    ∃ b off, p = some ⟨b, off, none⟩ ∧ b < w.heap.size ∧ S b ∧ w.cell? ⟨b, off + k * 4, none⟩ = some (.string ⟨l[k].1.toArray⟩) ∧ w.cell? ⟨b, off + k * 4 + 1, none⟩ = some (.int .i64 l[k].2.1) ∧
      w.cell? ⟨b, off + k * 4 + 2, none⟩ = some (.int .i64 l[k].2.2.1) ∧ w.cell? ⟨b, off + k * 4 + 3, none⟩ = some (.int .i64 l[k].2.2.2) := by
  obtain ⟨b, off, vs, hp, hlt, hS, hon, hc⟩ := h.at_ hk
  rw [ent_on] at hon
  subst hon
  exact ⟨b, off, hp, hlt, hS, hc 0 _ rfl, hc 1 _ rfl, hc 2 _ rfl, hc 3 _ rfl⟩
theorem str_list (l : List UInt8) : (⟨l.toArray⟩ : ByteArray).data.toList = l := by simp
theorem str_sz (l : List UInt8) : (⟨l.toArray⟩ : ByteArray).size = l.length := by rw [Lib.size_eq]
theorem str_inj {a b : List UInt8} : (⟨a.toArray⟩ : ByteArray) = ⟨b.toArray⟩ ↔ a = b :=
  ⟨fun h => by have := congrArg (fun x : ByteArray => x.data.toList) h; simpa using this, fun h => by rw [h]⟩

/-! ### what is found -/
def nilX : Ent := ([], 0, 0, 0)
def findD (l : List Ent) (t : List UInt8) : Option Ent := l.find? fun x => decide (x.1 = t)
def hasP (p : List UInt8) (x : Ent) : Bool := decide (p.length ≤ x.1.length) && decide (x.1.take p.length = p)
def prefD (l : List Ent) (p : List UInt8) : List Ent := l.filter (hasP p)
def floorD (l : List Ent) (t : List UInt8) : Nat := (l.filter fun x => lessL x.1 t).length
theorem findD_next {l : List Ent} {k : Nat} (hk : k < l.length) (t : List UInt8) : findD (l.drop k) t = if l[k].1 = t then some l[k] else findD (l.drop (k + 1)) t := by
  unfold findD
  rw [List.drop_eq_getElem_cons hk, List.find?_cons]
  by_cases h : l[k].1 = t <;> simp [h]
theorem findD_end (l : List Ent) (t : List UInt8) : findD (l.drop l.length) t = none := by unfold findD; simp
theorem prefD_next {l : List Ent} {k : Nat} (hk : k < l.length) (p : List UInt8) : prefD (l.take (k + 1)) p = prefD (l.take k) p ++ (if hasP p l[k] then [l[k]] else []) := by
  unfold prefD
  rw [List.take_succ_eq_append_getElem hk, List.filter_append]
  by_cases h : hasP p l[k] <;> simp [h]
theorem floorD_next {l : List Ent} {k : Nat} (hk : k < l.length) (t : List UInt8) : floorD (l.take (k + 1)) t = floorD (l.take k) t + (if lessL l[k].1 t then 1 else 0) := by
  unfold floorD
  rw [List.take_succ_eq_append_getElem hk, List.filter_append]
  by_cases h : lessL l[k].1 t <;> simp [h]
theorem floorD_le (l : List Ent) (t : List UInt8) : floorD l t ≤ l.length := List.length_filter_le _ _
end Go.Proofs.Ytklngjnjnkocmaa.DT
set_option linter.unusedVariables false
namespace Go.Proofs.Ytklngjnjnkocmaa.MM
open Go Go.RowKit

theorem text_index {s : ByteArray} {l : List UInt8} (hl : s.data.toList = l) {i : Nat} {c : UInt8} (hi : l[i]? = some c) (W : World) : (Instr.index 9 (.string s) (.int .i64 (i : Int))).run Try.prog W = .ok (.int .u8 (c.toNat : Int)) W := by
  obtain ⟨hlt, he⟩ := List.getElem?_eq_some_iff.1 hi
  have hsz : s.size = l.length := by rw [Lib.size_eq, hl]
  rw [run_index_string W 9 s .i64 i Try.underlying9, dif_pos ⟨by omega, by omega⟩]
  subst hl
  have e : (s[(i : Int).toNat]'(by omega)) = c := by
    rw [← he]
    simp only [Int.toNat_natCast]
    rfl
  rw [e]
theorem text_size {s : ByteArray} {l : List UInt8} (hl : s.data.toList = l) : s.size = l.length := by rw [Lib.size_eq, hl]
theorem drewN_more {w wr : World} (h : ∃ m, wr = w.drewN m) (n : Nat) : ∃ m, wr.drewN n = w.drewN m := by
  obtain ⟨m, rfl⟩ := h
  exact ⟨m + n, World.drewN_drewN _ _ _⟩
/-- A part of a text. -/
theorem text_part (l : List UInt8) (a b : Nat) : (⟨l.toArray⟩ : ByteArray).extract a b = ⟨((l.drop a).take (b - a)).toArray⟩ := by
  apply ByteArray.ext
  rw [ByteArray.data_extract]
  apply Array.toList_inj.1
  simp [List.extract_eq_take_drop]
theorem text_cut (l : List UInt8) (a b : Nat) : ((⟨l.toArray⟩ : ByteArray).extract a b).toList = (l.drop a).take (b - a) := by rw [text_part, Lib.toList_data]
end Go.Proofs.Ytklngjnjnkocmaa.MM
set_option linter.unusedVariables false
namespace Go.Proofs.Ytklngjnjnkocmaa.DT
open Go Go.RowKit Go.Proofs.Ytklngjnjnkocmaa.MM Go.Proofs.Ytklngjnjnkocmaa.DM

set_option maxRecDepth 100000 in
theorem few_any (S : Nat → Prop) (v : Value) (l : List Ent) (w : World) (h : ROn entC S w v l) : Calls Try.prog 7 #[v] w fun e w' => ∃ u, e = .returned u ∧ ROn entC S w u (l.take 80) ∧ w = w' := by
  obtain ⟨p, cap, rfl, hlc, hcm, _⟩ := h.shape
  unfold maxLen at hcm
  have H1 : Hid (l.length ≤ 80 → ROn entC S w (.slice p l.length cap) (l.take 80)) := Lib.hid (fun hl => by rw [List.take_of_length_le hl]; exact h)
  have H2 : Hid (80 ≤ l.length → ROn entC S w (.slice p 80 cap) (l.take 80)) := Lib.hid (fun hl => h.take 80 hl)
  have q1 : 80 ≤ l.length → 80 ≤ cap := fun _ => by omega
  clear h
  go_enter Try.func7, Try.ntmps7
  go_wp2_with fail
  all_goals go_ret
  all_goals first
    | exact ⟨_, rfl, H1.out (by omega), rfl⟩
    | exact ⟨_, rfl, H2.out (by omega), rfl⟩
set_option maxRecDepth 100000 in
theorem lcut_any (B : Nat) (v : Value) (l : List UInt8) (w : World) (h : BIn B w v l) : Calls Try.prog 8 #[v] w fun e w' => ∃ u, e = .returned u ∧ BIn B w u (l.take 4000) ∧ w = w' := by
  obtain ⟨p, cap, rfl, hlc, hcm⟩ := h.shape
  unfold maxLen at hcm
  have H1 : Hid (l.length ≤ 4000 → BIn B w (.slice p l.length cap) (l.take 4000)) := Lib.hid (fun hl => by rw [List.take_of_length_le hl]; exact h)
  have H2 : Hid (4000 ≤ l.length → BIn B w (.slice p 4000 cap) (l.take 4000)) := Lib.hid (fun hl => h.take 4000 hl)
  have q1 : 4000 ≤ l.length → 4000 ≤ cap := fun _ => by omega
  clear h
  go_enter Try.func8, Try.ntmps8
  go_wp2_with fail
  all_goals go_ret
  all_goals first
    | exact ⟨_, rfl, H1.out (by omega), rfl⟩
    | exact ⟨_, rfl, H2.out (by omega), rfl⟩
end Go.Proofs.Ytklngjnjnkocmaa.DT
