/-
  The reference's New, Add, May. Condition: a text has at most a million bytes.
-/
import Derived.Test.YtjogjmkfkmbjdaaBlmNew
import Derived.Test.YtjogjmkfkmbjdaaBlmMay
set_option linter.unusedVariables false
namespace Go.Proofs.Ytjogjmkfkmbjdaa.BL
open Go.RowKit Go.Proofs.Ytjogjmkfkmbjdaa.MM Go.Proofs.Ytjogjmkfkmbjdaa.BM

theorem own_empty (w : World) (B : Nat) (hB : B ≤ w.heap.size) : OwnB B (w.alloc (.cells #[] 5)) (.slice (some ⟨w.heap.size, 0, none⟩) 0 0) [] := own_lit w [] 5 B hB (by unfold maxLen; simp)
theorem own_at {w : World} {B b n cap : Nat} {L : List UInt8} (h : OwnB B w (.slice (some ⟨b, 0, none⟩) n cap) L) : OwnB b w (.slice (some ⟨b, 0, none⟩) n cap) L := by
  refine ⟨h.1, ?_⟩
  rcases h.2 with ⟨h0, _⟩ | ⟨g, cap, cur, hv, hg, rest⟩
  · cases h0
  · have hv2 := hv
    simp only [Value.slice.injEq, Option.some.injEq, Addr.mk.injEq] at hv2
    exact .inr ⟨g, cap, cur, hv, by rw [hv2.1.1]; exact Nat.le_refl _, rest⟩
theorem own_lift {w : World} {B b n cap : Nat} {L : List UInt8} (h : OwnB b w (.slice (some ⟨b, 0, none⟩) n cap) L) (hB : B ≤ b) : OwnB B w (.slice (some ⟨b, 0, none⟩) n cap) L := h.weaken hB
theorem sum_all : ∀ c : Fin 256, ∀ j : Fin 8, bitB (UInt8.ofNat c.val) j.val = false → ((c.val : Int) + (2 : Int) ^ j.val) % 256 = ((putB (UInt8.ofNat c.val) j.val).toNat : Int) := by decide +kernel
theorem sum_int (c : UInt8) {j : Nat} (hj : j < 8) (h : bitB c j = false) : ((c.toNat : Int) + (2 : Int) ^ j) % 256 = ((putB c j).toNat : Int) := by
  have := sum_all ⟨c.toNat, c.toNat_lt⟩ ⟨j, hj⟩
  have e : UInt8.ofNat c.toNat = c := by simp
  dsimp only at this
  rw [e] at this
  exact this h

/-- What the reference's Add leaves. -/
def RAddLeft (r : List UInt8 × Nat) (w : World) (e : Ending) (w' : World) : Prop := ∃ v, e = .returned (.tuple #[.agg #[v], .int .i64 (r.2 : Int)]) ∧ OwnB w.heap.size w' v r.1 ∧ Below w.heap.size w w'
theorem put1_yes' {st : List UInt8 × Nat} {k : Nat} (h : hasL st.1 k = true) : put1 st k = st := by unfold put1; rw [if_pos h]
theorem put1_no' {st : List UInt8 × Nat} {k : Nat} (h : hasL st.1 k = false) : put1 st k = (putL st.1 k, st.2 + 1) := by unfold put1; rw [if_neg (by rw [h]; exact Bool.false_ne_true)]
theorem put_at' {L : List UInt8} {k : Nat} (hk : k / 8 < L.length) : putL L k = L.set (k / 8) (putB L[k / 8] (k % 8)) := by
  unfold putL
  simp [List.getD, hk]

theorem fat_store {w : World} {g b cap t : Nat} {old : Value} {L : List UInt8} (ho : OwnB b w (.slice (some ⟨b, 0, none⟩) L.length cap) L) (hg : w.heap[g]? = some (.cells #[old] t (0, 0))) (hne : g ≠ b) (hlo : 8 ≤ L.length) (hhi : L.length ≤ 131072) :
    FAt (w.setCell ⟨g, 0, none⟩ (.slice (some ⟨b, 0, none⟩) L.length cap)) g b cap L := by
  have h1 := heap_setCell_same w g 0 _ _ (.slice (some ⟨b, 0, none⟩) L.length cap) hg
  refine ⟨?_, own_block ho (heap_setCell_other w ⟨g, 0, none⟩ b _ (by show b ≠ g; omega)), hne, hlo, hhi⟩
  rw [cell_of_row _ g 0 _ _ _ h1]
  rfl
theorem infoFil : (Try.prog.info? 30).map (·.size) = some 1 := by kernel_rfl
theorem results_fil_two {fn : Func} {p u : Tmp} (h : fn.results = #[.cell p 30, .tmp u]) (tmps : Array Value) (w : World) (g : Nat) (x : Value)
    (hp : tmps.getD p undef = .pointer (some ⟨g, 0, none⟩)) (hg : w.heap[g]? = some (.cells #[x] 30 (0, 0))) :
    (results fn tmps).run Try.prog w = .ok (.tuple #[.agg #[x], tmps.getD u undef]) w := by
  have hp' : tmps[p]?.getD undef = .pointer (some ⟨g, 0, none⟩) := by simpa using hp
  simp [results, h, hp', asAddr, run_loadVar_row w g 30 30 _ (0, 0) _ hg Try.underlying30 rfl infoFil]
/-- A cell that holds nothing yet. -/
def Bare (w : World) (g : Nat) : Prop := w.heap[g]? = some (.cells #[.slice none 0 0] 30 (0, 0))
theorem Bare.cell {w : World} {g : Nat} (h : Bare w g) : w.cell? ⟨g, 0, none⟩ = some (.slice none 0 0) := by rw [cell_of_row _ g 0 _ _ _ h]; rfl
theorem Bare.free {w : World} {g : Nat} (h : Bare w g) : w.frozen? ⟨g, 0, none⟩ = false := frozen_of_row _ g 0 _ _ h
theorem Bare.lt {w : World} {g : Nat} (h : Bare w g) : g < w.heap.size := (Array.getElem?_eq_some_iff.1 h).1
theorem Bare.keep {w w' : World} {g B : Nat} (h : Bare w g) (hb : Below B w w') (hg : g < B) : Bare w' g := (hb.block g hg).trans h
theorem Bare.other {w : World} {g b j : Nat} {u : Value} (h : Bare w g) (hg : g ≠ b) : Bare (w.setCell ⟨b, j, none⟩ u) g := (heap_setCell_other w ⟨b, j, none⟩ g _ (by show g ≠ b; exact hg)).trans h
theorem below_set {B g i : Nat} {a w : World} (v : Value) (h : Below B a w) (hg : B ≤ g) : Below B a (w.setCell ⟨g, i, none⟩ v) :=
  ⟨h.os, h.tape, h.output, by simp only [World.setCell, Array.size_modify]; exact h.size, fun j hj => by rw [heap_setCell_other w ⟨g, i, none⟩ j v (by show j ≠ g; omega)]; exact h.block j hj⟩

set_option maxRecDepth 100000 in
set_option maxHeartbeats 2000000 in
theorem radd_any (v : Value) (L s : List UInt8) (w : World) (h : BRow w v L) (hs : s.length ≤ 1000000) (hlo : 8 ≤ L.length) (hhi : L.length ≤ 131072) :
    Calls Try.prog 11 #[.agg #[v], .string ⟨s.toArray⟩] w (RAddLeft (addT L s) w) := by
  obtain ⟨p, cap, rfl, hlc, hcm⟩ := h.shape
  have hb1 : Below w.heap.size w ((w.alloc (.cells #[.slice p L.length cap] 30)).alloc (.cells #[.slice none 0 0] 30)) := ((Below.refl _ _).alloc (Nat.le_refl _) _).alloc (by simp) _
  have hsz1 : ((w.alloc (.cells #[.slice p L.length cap] 30)).alloc (.cells #[.slice none 0 0] 30)).heap.size = w.heap.size + 1 + 1 := by simp
  have hg0 : ((w.alloc (.cells #[.slice p L.length cap] 30)).alloc (.cells #[.slice none 0 0] 30)).heap[w.heap.size]? = some (.cells #[.slice p L.length cap] 30 (0, 0)) := by
    have e := heap_alloc_new w (.cells #[.slice p L.length cap] 30)
    rw [((Below.refl (w.heap.size + 1) (w.alloc (.cells #[.slice p L.length cap] 30))).alloc (by simp) _).block w.heap.size (by omega)]
    exact e
  have hg1 : Bare ((w.alloc (.cells #[.slice p L.length cap] 30)).alloc (.cells #[.slice none 0 0] 30)) (w.heap.size + 1) := by
    have e := heap_alloc_new (w.alloc (.cells #[.slice p L.length cap] 30)) (.cells #[.slice none 0 0] 30)
    rw [show (w.alloc (.cells #[.slice p L.length cap] 30)).heap.size = w.heap.size + 1 by simp] at e
    exact e
  have ho := own_empty ((w.alloc (.cells #[.slice p L.length cap] 30)).alloc (.cells #[.slice none 0 0] 30)) _ (Nat.le_refl _)
  have hbe := (Below.refl _ ((w.alloc (.cells #[.slice p L.length cap] 30)).alloc (.cells #[.slice none 0 0] 30))).alloc (Nat.le_refl _) (.cells #[] 5)
  have hr1 := h.below (hb1.trans (hbe.mono hb1.size))
  have hb2 := hb1.trans (hbe.mono hb1.size)
  have hsz2 : (((w.alloc (.cells #[.slice p L.length cap] 30)).alloc (.cells #[.slice none 0 0] 30)).alloc (.cells #[] 5)).heap.size = w.heap.size + 1 + 1 + 1 := by simp
  rw [hsz1] at ho hbe
  have hg0' := (hbe.block w.heap.size (by omega)).trans hg0
  have hg1' := hg1.keep hbe (by omega)
  obtain ⟨n, hn⟩ : ∃ n, L.length = n := ⟨_, rfl⟩
  rw [hn] at ho hr1 hb2 hsz2 hg0' hg1' hlc hlo hhi ⊢
  have HBIT := Lib.hid (fun p cap i (hi : i < 4) W => rbit_any p n cap s i W (by omega) (by omega) (by omega) hi)
  have HIN := Lib.hid (addI_next L s)
  rw [hn] at HIN
  have HIL := Lib.hid (fun i => (addI_len L s i).trans hn)
  have HIC := Lib.hid (addI_count L s)
  have HPL : Hid (∀ i, placeL (8 * n) s i < 8 * n) := Lib.hid (fun i => placeL_lt s i (by omega))
  have HE : Hid (addI L s 4 = addT L s) := Lib.hid rfl
  have HA0 : Hid (addI L s 0 = (L, 0)) := Lib.hid rfl
  obtain ⟨⟨R, rc⟩, hR⟩ : ∃ R, addT L s = R := ⟨_, rfl⟩
  rw [hR] at HE ⊢
  have HLN := Lib.hid hn
  have HO := Lib.hid ho
  have HR1 := Lib.hid hr1
  have HB2 := Lib.hid hb2
  have HSZ2 := Lib.hid hsz2
  have HG0 := Lib.hid hg0'
  have HG1 := Lib.hid hg1'
  clear h hb1 hg0 hg1 hsz1 hR ho hbe hr1 hb2 hsz2 hg0' hg1' hn
  go_enter Try.func11, Try.ntmps11
  go_wp2_with (at_builtin; go_loud (refine wpList_append_bytes rfl _ _ rfl (w.heap.size + 1 + 1) _ [] rfl HO.out _ L rfl HR1.out (by simp [HLN.out]; omega) (by rw [HSZ2.out]; omega) ?_))
  intro v3 w3 ho3 hb3
  change OwnB (w.heap.size + 1 + 1) w3 v3 L at ho3
  obtain ⟨b, cap3, rfl, hbb, hc31, hc32⟩ := OwnB.shape ho3 (by rw [HLN.out]; omega)
  have hg03 := (hb3.block w.heap.size (by omega)).trans HG0.out
  have hg13 := HG1.out.keep hb3 (by omega)
  have hf3 := fat_store (own_at ho3) hg03 (by omega) (by rw [HLN.out]; omega) (by rw [HLN.out]; omega)
  have hold : w3.cell? ⟨w.heap.size, 0, none⟩ = some (.slice p n cap) := by rw [cell_of_row _ w.heap.size 0 _ _ _ hg03]; rfl
  have hfz := frozen_of_row w3 w.heap.size 0 _ _ hg03
  have HG14 := Lib.hid (hg13.other (b := w.heap.size) (j := 0) (u := .slice (some ⟨b, 0, none⟩) L.length cap3) (by omega))
  have HB4 := Lib.hid (below_set (i := 0) (.slice (some ⟨b, 0, none⟩) L.length cap3) (HB2.out.trans (hb3.mono (by omega))) (Nat.le_refl w.heap.size))
  have HF4 : Hid (FAt _ w.heap.size b cap3 (addI L s 0).1) := Lib.hid hf3
  rw [HLN.out] at HG14 HB4 HF4 hc31 ⊢
  have hbb2 : w.heap.size + 1 < b := by omega
  clear ho3 hb3 hg03 hg13 hf3 HO HR1 HB2 HSZ2 HG0 HG1
  go_wp2_with fail
  go_loopw [6, 7] (fun nv iv wr => ∃ i : Nat, i ≤ 4 ∧ nv = .int .i64 ((addI L s i).2 : Int) ∧ iv = .int .i64 i ∧ Hid (FAt wr w.heap.size b cap3 (addI L s i).1) ∧ Hid (Bare wr (w.heap.size + 1)) ∧ Hid (Below w.heap.size w wr)) (fun _ iv _ => 4 - (intOf iv).toNat)
  case atStart => exact ⟨0, by omega, by rw [HA0.out]; simp, rfl, HF4, HG14, HB4⟩
  case round =>
    obtain ⟨i, hi, rfl, rfl, HF, HG, HB⟩ := hrel
    clear HF4 HG14 HB4 hold hfz
    by_cases hlt : i < 4
    · have t2 : decide ((i : Int) < 4) = true := by simp; omega
      have hin := HIN.out i
      have hil := HIL.out i
      have hic := HIC.out i
      have hpl := HPL.out i
      have hbit := HBIT.out (some ⟨b, 0, none⟩) cap3 i hlt
      obtain ⟨X, hX⟩ : ∃ X, placeL (8 * n) s i = X := ⟨_, rfl⟩
      rw [hX] at hin hpl
      simp only [hX] at hbit
      obtain ⟨⟨A, d⟩, hA⟩ : ∃ A, addI L s i = A := ⟨_, rfl⟩
      rw [hA] at hin hil hic HF ⊢
      dsimp only at hil hic HF ⊢
      have hc := HF.out.cell
      rw [hil] at hc
      have HBI := Lib.hid hbit
      have HIL1 := Lib.hid hil
      have HIN1 := Lib.hid hin
      clear hX hA hil hin hbit
      go_wp2_with fail
      refine (HBI.out _).mono ?_
      rintro e w4 ⟨rfl, hb4⟩
      have hf4 := HF.out.below hb4
      have hc4 := hf4.cell
      have hlg4 := HF.out.glt
      have hh := rhas_any _ A X w4 hf4.brow hf4.hi (by rw [HIL1.out]; omega)
      have HG4 := Lib.hid (HG.out.keep hb4 HG.out.lt)
      have HB4 := Lib.hid (HB.out.trans (hb4.mono HB.out.size))
      have HF4 := Lib.hid hf4
      rw [HIL1.out] at hc4 hh
      have HH := Lib.hid hh
      clear hb4 hf4 hh hc HF HG HB
      go_wp2_with fail
      refine HH.out.mono ?_
      rintro e w5 ⟨rfl, hb5⟩
      have hf5 := HF4.out.below hb5
      have HG5 := Lib.hid (HG4.out.keep hb5 HG4.out.lt)
      have HB5 := Lib.hid (HB4.out.trans (hb5.mono HB4.out.size))
      have HF5 := Lib.hid hf5
      clear hb5 hf5 HH HG4 HB4 HF4 hc4
      cases hb : hasL A X with
      | true =>
        have hin := HIN1.out
        rw [put1_yes' (st := (A, d)) hb] at hin
        have HIN2 := Lib.hid hin
        clear hb hin
        go_wp2_with fail
        go_roundw
        case rel => exact ⟨i + 1, by omega, by rw [HIN2.out], by go_num, by rw [HIN2.out]; exact HF5, HG5, HB5⟩
        case measure => simp [intOf]; omega
      | false =>
        have hin := HIN1.out
        rw [put1_no' (st := (A, d)) hb] at hin
        have HIN2 := Lib.hid hin
        have hxl : X / 8 < A.length := by rw [HIL1.out]; omega
        have hc5 := HF5.out.cell
        rw [HIL1.out] at hc5
        have hcell := HF5.out.there hxl
        have hfz := OwnB.free HF5.out.own (X / 8)
        have hsum := sum_int A[X / 8] (j := X % 8) (Nat.mod_lt _ (by decide)) (by rw [← has_at hxl]; exact hb)
        have HSUM := Lib.hid hsum
        have HFS := Lib.hid ((HF5.out.set (X / 8) (putB A[X / 8] (X % 8))).keep (kep_draw (fun _ => True) _) trivial trivial)
        rw [← put_at' hxl] at HFS
        have HGS : Hid (Bare (w5.setCell ⟨b, X / 8, none⟩ (.int .u8 ((putB A[X / 8] (X % 8)).toNat : Int))).drew (w.heap.size + 1)) := Lib.hid (HG5.out.other (b := b) (j := X / 8) (by omega))
        have HBS : Hid (Below w.heap.size w (w5.setCell ⟨b, X / 8, none⟩ (.int .u8 ((putB A[X / 8] (X % 8)).toNat : Int))).drew) := Lib.hid ((below_set (i := X / 8) _ HB5.out (by omega : w.heap.size ≤ b)).drew)
        clear hb hin hsum
        go_wp2_with fail
        go_region
        rw [HSUM.out]
        go_wp2_with fail
        go_roundw
        case rel => exact ⟨i + 1, by omega, by rw [HIN2.out]; go_num, by go_num, by rw [HIN2.out]; exact HFS, HGS, HBS⟩
        case measure => simp [intOf]; omega
    · obtain rfl : i = 4 := by omega
      have t2 : decide ((4 : Int) < 4) = false := by simp
      have he := HE.out
      rw [he] at HF ⊢
      dsimp only at HF ⊢
      have hil := HIL.out 4
      rw [he] at hil
      dsimp only at hil
      have hc := HF.out.cell
      rw [hil] at hc
      have hcb := HG.out.cell
      have hfb := HG.out.free
      have HX := Lib.hid (heap_setCell_same wr (w.heap.size + 1) 0 _ _ (.slice (some ⟨b, 0, none⟩) n cap3) HG.out)
      have hk : Kep (fun k => k ≠ w.heap.size + 1) wr (wr.setCell ⟨w.heap.size + 1, 0, none⟩ (.slice (some ⟨b, 0, none⟩) n cap3)) := kep_set (fun h => h rfl) _
      have HO := Lib.hid (own_lift (HF.out.keep hk (by omega) (by omega)).own (by omega : w.heap.size ≤ b))
      rw [hil] at HO
      have HBX := Lib.hid (below_set (i := 0) (.slice (some ⟨b, 0, none⟩) n cap3) HB.out (by omega : w.heap.size ≤ w.heap.size + 1))
      clear he hk
      go_wp2_with fail
      refine bodyPost_ret (results_fil_two rfl _ _ (w.heap.size + 1) _ rfl HX.out) rfl ⟨_, rfl, HO.out, HBX.out⟩
end Go.Proofs.Ytjogjmkfkmbjdaa.BL
