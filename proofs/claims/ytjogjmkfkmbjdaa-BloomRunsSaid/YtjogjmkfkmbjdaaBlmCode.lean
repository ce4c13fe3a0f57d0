/-
  A filter's bits, by the code: size, made, has, put. Condition: a filter has from 8 to 131072 bytes.
-/
import Derived.Test.YtjogjmkfkmbjdaaBlmPlace
import Derived.Test.YtjogjmkfkmbjdaaKep
import Derived.WalkSpells
set_option linter.unusedVariables false
namespace Go.Proofs.Ytjogjmkfkmbjdaa.BL
open Go.RowKit Go.Proofs.Ytjogjmkfkmbjdaa.MM Go.Proofs.Ytjogjmkfkmbjdaa.BM

set_option maxRecDepth 100000 in
theorem size_any (p : Option Addr) (n cap : Nat) (w : World) (hn1 : n ≤ 131072) : Calls Try.prog 29 #[.slice p n cap] w fun e w' => e = .returned (.int .i64 (8 * (n : Int))) ∧ w = w' := by
  go_enter Try.func29, Try.ntmps29
  go_wp2_with fail
  go_ret
  exact ⟨rfl, rfl⟩

/-- A filter: the object's block g, its bytes' block b. -/
structure FAt (w : World) (g b cap : Nat) (L : List UInt8) : Prop where
  cell : w.cell? ⟨g, 0, none⟩ = some (.slice (some ⟨b, 0, none⟩) L.length cap)
  own : OwnB b w (.slice (some ⟨b, 0, none⟩) L.length cap) L
  ne : g ≠ b
  lo : 8 ≤ L.length
  hi : L.length ≤ 131072
theorem FAt.glt {w : World} {g b cap : Nat} {L : List UInt8} (h : FAt w g b cap L) : g < w.heap.size := by
  have hc := h.cell
  by_cases hb : g < w.heap.size
  · exact hb
  · simp [World.cell?, Array.getElem?_eq_none (Nat.le_of_not_lt hb)] at hc
theorem FAt.there {w : World} {g b cap : Nat} {L : List UInt8} (h : FAt w g b cap L) {j : Nat} (hj : j < L.length) : w.cell? ⟨b, j, none⟩ = some (.int .u8 (L[j].toNat : Int)) := OwnB.cell h.own (List.getElem?_eq_getElem hj)
theorem FAt.blt {w : World} {g b cap : Nat} {L : List UInt8} (h : FAt w g b cap L) : b < w.heap.size := by
  have hc := h.there (j := 0) (by have := h.lo; omega)
  by_cases hb : b < w.heap.size
  · exact hb
  · simp [World.cell?, Array.getElem?_eq_none (Nat.le_of_not_lt hb)] at hc
theorem own_block {w w' : World} {b : Nat} {n cap : Nat} {L : List UInt8} (h : OwnB b w (.slice (some ⟨b, 0, none⟩) n cap) L) (hb : w'.heap[b]? = w.heap[b]?) : OwnB b w' (.slice (some ⟨b, 0, none⟩) n cap) L := by
  refine ⟨h.1, ?_⟩
  rcases h.2 with ⟨h0, _⟩ | ⟨g, cap, cur, hv, hg, hh, rest⟩
  · cases h0
  · refine .inr ⟨g, cap, cur, hv, hg, ?_, rest⟩
    simp only [Value.slice.injEq, Option.some.injEq, Addr.mk.injEq] at hv
    obtain ⟨⟨rfl, _⟩, _⟩ := hv
    rw [hb]
    exact hh
theorem FAt.keep {S : Nat → Prop} {w w' : World} {g b cap : Nat} {L : List UInt8} (h : FAt w g b cap L) (hk : Kep S w w') (hg : S g) (hb : S b) : FAt w' g b cap L :=
  ⟨(hk.cell h.glt hg 0).trans h.cell, own_block h.own (hk.block b h.blt hb), h.ne, h.lo, h.hi⟩
theorem FAt.below {w w' : World} {g b cap : Nat} {L : List UInt8} (h : FAt w g b cap L) (hk : Below w.heap.size w w') : FAt w' g b cap L := h.keep (kep_below (fun _ => True) hk) trivial trivial
theorem FAt.brow {w : World} {g b cap : Nat} {L : List UInt8} (h : FAt w g b cap L) : BRow w (.slice (some ⟨b, 0, none⟩) L.length cap) L := h.own.brow
theorem FAt.set {w : World} {g b cap : Nat} {L : List UInt8} (h : FAt w g b cap L) (j : Nat) (c : UInt8) : FAt (w.setCell ⟨b, j, none⟩ (.int .u8 (c.toNat : Int))) g b cap (L.set j c) := by
  have hl : (L.set j c).length = L.length := List.length_set
  refine ⟨?_, ?_, h.ne, by rw [hl]; exact h.lo, by rw [hl]; exact h.hi⟩
  · rw [hl]
    exact ((kep_set (S := fun k => k ≠ b) (fun hne => hne rfl) _).cell h.glt h.ne 0).trans h.cell
  · rw [hl]
    exact OwnB.set h.own c

set_option maxRecDepth 100000 in
theorem made_any (g b cap : Nat) (L : List UInt8) (w : World) (h : FAt w g b cap L) : Calls Try.prog 27 #[.pointer (some ⟨g, 0, none⟩)] w fun e w' => e = .returned (.bool true) ∧ w = w' := by
  have hc := h.cell
  have hq := fun (w : World) (a : Option Addr) (n c : Nat) => run_neq_slice_nil_any (P := Try.prog) w 48 5 a n c 0 0 Try.underlying48
  clear h
  go_enter Try.func27, Try.ntmps27
  go_wp2_with fail
  go_ret
  exact ⟨rfl, rfl⟩
set_option maxRecDepth 100000 in
theorem made_none (w : World) : Calls Try.prog 27 #[.pointer none] w fun e w' => e = .returned (.bool false) ∧ w = w' := by
  go_enter Try.func27, Try.ntmps27
  go_wp2_with fail
  go_ret
  exact ⟨rfl, rfl⟩
set_option maxRecDepth 100000 in
theorem made_bare (g : Nat) (w : World) (hc : w.cell? ⟨g, 0, none⟩ = some (.slice none 0 0)) : Calls Try.prog 27 #[.pointer (some ⟨g, 0, none⟩)] w fun e w' => e = .returned (.bool false) ∧ w = w' := by
  have hq := fun (w : World) (a : Option Addr) (n c : Nat) => run_neq_slice_nil_any (P := Try.prog) w 48 5 a n c 0 0 Try.underlying48
  go_enter Try.func27, Try.ntmps27
  go_wp2_with fail
  go_ret
  exact ⟨rfl, rfl⟩

/-! ### has, put -/
theorem shr_all : ∀ c : Fin 256, ∀ j : Fin 8, (bits .and .u8 ((c.val : Int) / (2 : Int) ^ j.val) 1 == 1) = bitB (UInt8.ofNat c.val) j.val := by decide +kernel
theorem shr_int (c : UInt8) {j : Nat} (hj : j < 8) : (bits .and .u8 ((c.toNat : Int) / (2 : Int) ^ j) 1 == 1) = bitB c j := by
  have := shr_all ⟨c.toNat, c.toNat_lt⟩ ⟨j, hj⟩
  have e : UInt8.ofNat c.toNat = c := by simp
  dsimp only at this
  rw [e] at this
  exact this
theorem or_all : ∀ c : Fin 256, ∀ j : Fin 8, bits .or .u8 (c.val : Int) ((2 : Int) ^ j.val % 256) = ((putB (UInt8.ofNat c.val) j.val).toNat : Int) := by decide +kernel
theorem or_int (c : UInt8) {j : Nat} (hj : j < 8) : bits .or .u8 (c.toNat : Int) ((2 : Int) ^ j % 256) = ((putB c j).toNat : Int) := by
  have := or_all ⟨c.toNat, c.toNat_lt⟩ ⟨j, hj⟩
  have e : UInt8.ofNat c.toNat = c := by simp
  dsimp only at this
  rw [e] at this
  exact this
theorem put_at {L : List UInt8} {k : Nat} (hk : k / 8 < L.length) : putL L k = L.set (k / 8) (putB L[k / 8] (k % 8)) := by
  unfold putL
  simp [List.getD, hk]
set_option maxRecDepth 100000 in
set_option maxHeartbeats 1000000 in
theorem chas_any (g b cap : Nat) (L : List UInt8) (k : Nat) (w : World) (h : FAt w g b cap L) (hk : k < 8 * L.length) :
    Calls Try.prog 30 #[.slice (some ⟨b, 0, none⟩) L.length cap, .int .i64 k] w fun e w' => e = .returned (.bool (hasL L k)) ∧ w = w' := by
  have hn1 := h.hi
  have hkl : k / 8 < L.length := by omega
  have hcell := h.there hkl
  have he := shr_int L[k / 8] (j := k % 8) (Nat.mod_lt _ (by decide))
  rw [← has_at] at he
  have HE := Lib.hid he
  clear h he
  go_enter Try.func30, Try.ntmps30
  go_wp2_with fail
  go_ret
  exact ⟨congrArg (fun z => Ending.returned (.bool z)) HE.out, rfl⟩
set_option maxRecDepth 100000 in
set_option maxHeartbeats 1000000 in
theorem cput_any (g b cap : Nat) (L : List UInt8) (k : Nat) (w : World) (h : FAt w g b cap L) (hk : k < 8 * L.length) :
    Calls Try.prog 31 #[.slice (some ⟨b, 0, none⟩) L.length cap, .int .i64 k] w fun e w' => e = .returned (.tuple #[]) ∧ FAt w' g b cap (putL L k) ∧ Kep (fun i => i ≠ b) w w' := by
  have hn1 := h.hi
  have hkl : k / 8 < L.length := by omega
  have hcell := h.there hkl
  have hfz := OwnB.free h.own (k / 8)
  have HE := Lib.hid (or_int L[k / 8] (j := k % 8) (Nat.mod_lt _ (by decide)))
  have HF := Lib.hid ((h.set (k / 8) (putB L[k / 8] (k % 8))).keep ((kep_draw (fun _ => True) _)) trivial trivial)
  have HK := Lib.hid ((kep_set (w := w) (g := b) (i := k / 8) (S := fun i => i ≠ b) (fun hne => hne rfl) (.int .u8 ((putB L[k / 8] (k % 8)).toNat : Int))).drew)
  rw [← put_at hkl] at HF
  clear h
  go_enter Try.func31, Try.ntmps31
  go_region
  rw [HE.out]
  refine bodyPost_end (results_none rfl _ _ _) rfl ?_
  exact ⟨rfl, HF.out, HK.out⟩
end Go.Proofs.Ytjogjmkfkmbjdaa.BL
