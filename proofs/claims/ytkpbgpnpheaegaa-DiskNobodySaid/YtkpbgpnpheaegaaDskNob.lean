/-
  The code's calls at a disk that nobody made: a nil pointer, or one to an empty object. No condition.
-/
import Derived.Test.YtkpbgpnpheaegaaDskRestart
import Derived.Laws.IdiomRangeMap
set_option linter.unusedVariables false
namespace Go.Proofs.Ytkpbgpnpheaegaa.DK
open Go.RowKit Go.Proofs.Ytkpbgpnpheaegaa.MM Go.Maps

/-- A disk that nobody made. -/
def Nob (w : World) (v : Value) : Prop := v = .pointer none ∨ ∃ g, v = .pointer (some ⟨g, 0, none⟩) ∧ w.heap[g]? = some (.cells #[.map none, .int .i64 0, .int .i64 0, .bool false] 63 (0, 0))
theorem Nob.below {w w' : World} {v : Value} (h : Nob w v) (hb : Below w.heap.size w w') : Nob w' v := by
  rcases h with h | ⟨g, h1, h2⟩
  · exact .inl h
  · exact .inr ⟨g, h1, (hb.block g (Array.getElem?_eq_some_iff.1 h2).1).trans h2⟩
theorem Nob.shape {w : World} {v : Value} (h : Nob w v) : ∃ p, v = .pointer p := by
  rcases h with h | ⟨g, h1, h2⟩
  · exact ⟨_, h⟩
  · exact ⟨_, h1⟩
theorem nob_made {w : World} {v : Value} (h : Nob w v) : Calls Try.prog 41 #[v] w fun e w' => e = .returned (.bool false) ∧ w = w' := by
  rcases h with rfl | ⟨g, rfl, hg⟩
  · exact made_nil w
  · exact made_none g w (by rw [cell_of_row w g 0 _ _ _ hg]; rfl)
def NobC (r : Value) (w : World) (e : Ending) (w' : World) : Prop := e = .returned r ∧ Below w.heap.size w w'
set_option maxRecDepth 100000 in
theorem nob_find (w : World) (v s : Value) (po : Option Addr) (no co : Nat) (h : Nob w v) (x : ByteArray) : Calls Try.prog 44 #[v, .string x, .slice po no co] w (NobC (.tuple #[.agg #[.slice none 0 0, .int .i64 0], .int .i64 4]) w) := by
  obtain ⟨p, hp⟩ := h.shape
  have hba : ∀ o, Below w.heap.size w (w.alloc o) := fun o => (Below.refl _ _).alloc (Nat.le_refl _) _
  have HM := Lib.hid (fun o => nob_made (h.below (hba o)))
  obtain ⟨W0, hW0⟩ : ∃ W, w.alloc (.cells #[.slice none 0 0, .int .i64 0] 82) = W := ⟨_, rfl⟩
  have hb0 : Below w.heap.size w W0 := by rw [← hW0]; exact hba _
  have hf0 : FV W0 w.heap.size (.slice none 0 0) 0 := by rw [← hW0]; exact fv_new w _ 0
  have HE := Lib.hid (hf0.two (.slice none 0 0) 0)
  have HB := Lib.hid (show Below w.heap.size w _ from (hb0.setCell (p := ⟨w.heap.size, 0, none⟩) (Nat.le_refl _) (.slice none 0 0)).setCell (p := ⟨w.heap.size, 1, none⟩) (Nat.le_refl _) (.int .i64 0))
  have c0 := hf0.f0
  have c1 := hf0.f1
  have c2 := fun k => hf0.free k
  have HW := Lib.hid hW0
  subst hp
  clear h hba hb0 hf0 hW0
  go_enter Try.func44, Try.ntmps44
  go_wp2_with fail
  refine (HM.out _).mono ?_
  rintro e w' ⟨rfl, rfl⟩
  rw [HW.out]
  go_wp2_with fail
  refine bodyPost_ret (results_file_tmp rfl _ _ w.heap.size _ _ rfl HE.out) rfl ?_
  exact ⟨rfl, HB.out⟩
set_option maxRecDepth 100000 in
theorem nob_fac (w : World) (v : Value) (po : Option Addr) (no co : Nat) (h : Nob w v) (x : ByteArray) : Calls Try.prog 48 #[v, .string x, .slice po no co] w (NobC (.tuple #[.agg #[.slice none 0 0, .int .i64 0], .int .i64 4]) w) := by
  obtain ⟨p, hp⟩ := h.shape
  have hba : ∀ (w : World) o, Below w.heap.size w (w.alloc o) := fun w o => (Below.refl _ _).alloc (Nat.le_refl _) _
  have HFI := Lib.hid (fun o => nob_find (w.alloc o) v v po no co (h.below (hba w o)) x)
  have HBA := Lib.hid hba
  subst hp
  clear h hba
  go_enter Try.func48, Try.ntmps48
  go_wp2_with fail
  refine (HFI.out _).mono ?_
  rintro e W1 ⟨rfl, hb1⟩
  have hf1 := (fv_new w (.slice none 0 0) 0).below hb1 (by simp)
  have hbw1 : Below w.heap.size w W1 := (HBA.out w _).trans (hb1.mono (by simp))
  have hlt1 := hf1.lt
  have HE := Lib.hid (fun o => (hf1.two (.slice none 0 0) 0).below (HBA.out _ o) (by simp; omega))
  have HB := Lib.hid (fun o => ((hbw1.setCell (p := ⟨w.heap.size, 0, none⟩) (Nat.le_refl _) (.slice none 0 0)).setCell (p := ⟨w.heap.size, 1, none⟩) (Nat.le_refl _) (.int .i64 0)).alloc (by simp; omega) o)
  have c0 := hf1.f0
  have c1 := hf1.f1
  have c2 := fun k => hf1.free k
  clear hb1 hbw1 hf1 HFI
  go_wp2_with fail
  refine bodyPost_ret (results_file_tmp rfl _ _ w.heap.size _ _ rfl (HE.out _)) rfl ?_
  exact ⟨rfl, HB.out _⟩
set_option maxRecDepth 100000 in
theorem nob_append (w : World) (v : Value) (po : Option Addr) (no co : Nat) (h : Nob w v) (x : ByteArray) : Calls Try.prog 25 #[v, .string x, .slice po no co] w (NobC (.int .i64 4) w) := by
  obtain ⟨p, hp⟩ := h.shape
  have HFI := Lib.hid (nob_find w v v none 0 0 h x)
  subst hp
  clear h
  go_enter Try.func25, Try.ntmps25
  go_wp2_with fail
  refine HFI.out.mono ?_
  rintro e W1 ⟨rfl, hb1⟩
  have HB := Lib.hid (fun o => hb1.alloc hb1.size o)
  clear hb1 HFI
  go_wp2_with fail
  go_ret
  exact ⟨rfl, HB.out _⟩
set_option maxRecDepth 100000 in
theorem nob_sync (w : World) (v : Value) (h : Nob w v) (x : ByteArray) : Calls Try.prog 22 #[v, .string x] w (NobC (.int .i64 4) w) := by
  obtain ⟨p, hp⟩ := h.shape
  have HFI := Lib.hid (nob_fac w v none 0 0 h x)
  subst hp
  clear h
  go_enter Try.func22, Try.ntmps22
  go_wp2_with fail
  refine HFI.out.mono ?_
  rintro e W1 ⟨rfl, hb1⟩
  have HB := Lib.hid (fun o => hb1.alloc hb1.size o)
  clear hb1 HFI
  go_wp2_with fail
  go_ret
  exact ⟨rfl, HB.out _⟩
set_option maxRecDepth 100000 in
theorem nob_remove (w : World) (v : Value) (h : Nob w v) (x : ByteArray) : Calls Try.prog 24 #[v, .string x] w (NobC (.int .i64 4) w) := by
  obtain ⟨p, hp⟩ := h.shape
  have HFI := Lib.hid (nob_fac w v none 0 0 h x)
  subst hp
  clear h
  go_enter Try.func24, Try.ntmps24
  go_wp2_with fail
  refine HFI.out.mono ?_
  rintro e W1 ⟨rfl, hb1⟩
  have HB := Lib.hid (fun o => hb1.alloc hb1.size o)
  clear hb1 HFI
  go_wp2_with fail
  go_ret
  exact ⟨rfl, HB.out _⟩
set_option maxRecDepth 100000 in
theorem nob_rename (w : World) (v : Value) (h : Nob w v) (x y : ByteArray) : Calls Try.prog 23 #[v, .string x, .string y] w (NobC (.int .i64 4) w) := by
  obtain ⟨p, hp⟩ := h.shape
  have hba : ∀ (w : World) o, Below w.heap.size w (w.alloc o) := fun w o => (Below.refl _ _).alloc (Nat.le_refl _) _
  have HFI := Lib.hid (fun o po no co => nob_fac (w.alloc o) v po no co (h.below (hba w o)) x)
  have HBA := Lib.hid hba
  subst hp
  clear h hba
  go_enter Try.func23, Try.ntmps23
  go_wp2_with fail
  refine (HFI.out _ _ _ _).mono ?_
  rintro e W1 ⟨rfl, hb1⟩
  have hbw1 : Below w.heap.size w W1 := (HBA.out w _).trans (hb1.mono (by simp))
  have HB := Lib.hid (fun o => hbw1.alloc hbw1.size o)
  clear hb1 HFI hbw1
  go_wp2_with fail
  go_ret
  exact ⟨rfl, HB.out _⟩
set_option maxRecDepth 100000 in
theorem nob_quota (w : World) (v : Value) (h : Nob w v) (q : Int) : Calls Try.prog 28 #[v, .int .i64 q] w (NobC (.int .i64 4) w) := by
  obtain ⟨p, hp⟩ := h.shape
  have HM := Lib.hid (nob_made h)
  subst hp
  clear h
  go_enter Try.func28, Try.ntmps28
  go_wp2_with fail
  refine HM.out.mono ?_
  rintro e w' ⟨rfl, rfl⟩
  go_wp2_with fail
  go_ret
  exact ⟨rfl, Below.refl _ _⟩
set_option maxRecDepth 100000 in
theorem nob_arm (w : World) (v : Value) (h : Nob w v) (q : Int) : Calls Try.prog 26 #[v, .int .i64 q] w (NobC (.tuple #[]) w) := by
  obtain ⟨p, hp⟩ := h.shape
  have HM := Lib.hid (nob_made h)
  subst hp
  clear h
  go_enter Try.func26, Try.ntmps26
  go_wp2_with fail
  refine HM.out.mono ?_
  rintro e w' ⟨rfl, rfl⟩
  go_wp2_with fail
  refine bodyPost_end (results_none rfl _ _ _) rfl ?_
  exact ⟨rfl, Below.refl _ _⟩
set_option maxRecDepth 100000 in
theorem nob_restart (w : World) (v : Value) (h : Nob w v) (p : Option Addr) (n c : Nat) : Calls Try.prog 14 #[v, .slice p n c] w (NobC (.tuple #[]) w) := by
  obtain ⟨q, hp⟩ := h.shape
  have HM := Lib.hid (nob_made h)
  subst hp
  clear h
  go_enter Try.func14, Try.ntmps14
  go_wp2_with fail
  refine HM.out.mono ?_
  rintro e w' ⟨rfl, rfl⟩
  go_wp2_with fail
  refine bodyPost_end (results_none rfl _ _ _) rfl ?_
  exact ⟨rfl, Below.refl _ _⟩
set_option maxRecDepth 100000 in
theorem nob_fork (w : World) (v : Value) (h : Nob w v) : Calls Try.prog 19 #[v] w (NobC (.pointer none) w) := by
  obtain ⟨p, hp⟩ := h.shape
  have HM := Lib.hid (nob_made h)
  subst hp
  clear h
  go_enter Try.func19, Try.ntmps19
  go_wp2_with fail
  refine HM.out.mono ?_
  rintro e w' ⟨rfl, rfl⟩
  go_wp2_with fail
  go_ret
  exact ⟨rfl, Below.refl _ _⟩
set_option maxRecDepth 100000 in
theorem nob_size (w : World) (v : Value) (h : Nob w v) (x : ByteArray) : Calls Try.prog 27 #[v, .string x] w (NobC (.tuple #[.int .i64 0, .bool false]) w) := by
  obtain ⟨p, hp⟩ := h.shape
  have HFI := Lib.hid (nob_find w v v none 0 0 h x)
  subst hp
  clear h
  go_enter Try.func27, Try.ntmps27
  go_wp2_with fail
  refine HFI.out.mono ?_
  rintro e W1 ⟨rfl, hb1⟩
  have HB := Lib.hid (fun o => hb1.alloc hb1.size o)
  clear hb1 HFI
  go_wp2_with fail
  refine (size_any _ _ _ _).mono ?_
  rintro e w' ⟨rfl, rfl⟩
  go_wp2_with fail
  go_ret2
  exact ⟨rfl, HB.out _⟩
set_option maxRecDepth 100000 in
theorem nob_read (w : World) (v : Value) (h : Nob w v) (x : ByteArray) (a m : Int) : Calls Try.prog 15 #[v, .string x, .int .i64 a, .int .i64 m] w (NobC (.tuple #[.slice none 0 0, .int .i64 4]) w) := by
  obtain ⟨p, hp⟩ := h.shape
  have HFI := Lib.hid (nob_find w v v none 0 0 h x)
  subst hp
  clear h
  go_enter Try.func15, Try.ntmps15
  go_wp2_with fail
  refine HFI.out.mono ?_
  rintro e W1 ⟨rfl, hb1⟩
  have HB := Lib.hid (fun o => hb1.alloc hb1.size o)
  clear hb1 HFI
  go_wp2_with fail
  go_ret2
  exact ⟨rfl, HB.out _⟩
set_option maxRecDepth 100000 in
theorem nob_stopped (w : World) (v : Value) (h : Nob w v) : Calls Try.prog 20 #[v] w (NobC (.bool false) w) := by
  rcases h with rfl | ⟨g, rfl, hg⟩
  · go_enter Try.func20, Try.ntmps20
    go_wp2_with fail
    go_ret
    exact ⟨rfl, Below.refl _ _⟩
  · have c3 : w.cell? ⟨g, 3, none⟩ = some (.bool false) := by rw [cell_of_row w g 3 _ _ _ hg]; rfl
    clear hg
    go_enter Try.func20, Try.ntmps20
    go_wp2_with fail
    go_ret
    exact ⟨rfl, Below.refl _ _⟩
set_option maxRecDepth 100000 in
theorem nob_durable (w : World) (v : Value) (h : Nob w v) (x : ByteArray) (hx : x.size ≤ maxLen) : Calls Try.prog 17 #[v, .string x] w (NobC (.int .i64 0) w) := by
  rcases h with rfl | ⟨g, rfl, hg⟩
  · go_enter Try.func17, Try.ntmps17
    go_wp2_with fail
    go_ret
    exact ⟨rfl, Below.refl _ _⟩
  · have c0 : w.cell? ⟨g, 0, none⟩ = some (.map none) := by rw [cell_of_row w g 0 _ _ _ hg]; rfl
    have hl := Maps.look_nil (w := w) false strKeyed Try.underlying61 (zeroF w) (Go.WideMaps.keyOf_string_mk Try.underlying9 hx)
    rw [if_neg Bool.false_ne_true] at hl
    unfold zeroFile at hl
    have hfd := field_sure none 0 0 0 w
    clear hg hx
    go_enter Try.func17, Try.ntmps17
    go_wp2_with fail
    go_ret
    exact ⟨rfl, Below.refl _ _⟩
set_option maxRecDepth 100000 in
theorem nob_used (w : World) (v : Value) (h : Nob w v) : Calls Try.prog 21 #[v] w (NobC (.int .i64 0) w) := by
  rcases h with rfl | ⟨g, rfl, hg⟩
  · go_enter Try.func21, Try.ntmps21
    go_wp2_with fail
    go_ret
    exact ⟨rfl, Below.refl _ _⟩
  · have c0 : w.cell? ⟨g, 0, none⟩ = some (.map none) := by rw [cell_of_row w g 0 _ _ _ hg]; rfl
    have hrg := run_range_nilMap (P := Try.prog) w 61 9 82 Try.underlying61
    have hnx : ∀ ty, (Instr.next (.pointer (some ⟨w.heap.size, 0, none⟩)) false ty).run Try.prog (w.alloc (.mapIter none 0 #[] 0)) = _ := fun ty => run_next_nilMap w ty 0 0 #[]
    have HB := Lib.hid (fun o => (Below.refl w.heap.size w).alloc (Nat.le_refl _) o)
    clear hg
    go_enter Try.func21, Try.ntmps21
    go_wp2_with fail
    refine wp_loop_rounds 1 ?_
    rw [rounds_succ]
    go_wp2_with fail
    go_ret
    exact ⟨rfl, HB.out _⟩
set_option maxRecDepth 100000 in
theorem nob_names (g : Nat) (w : World) (hg : w.cell? ⟨g, 0, none⟩ = some (.map none)) : Calls Try.prog 42 #[.pointer (some ⟨g, 0, none⟩)] w (NobC (.slice none 0 0) w) := by
  have hK := callsIn_wide.1 (Try.maps_Keys_59 none w)
  have hS := callsIn_wide.1 (Try.slices_Sorted_keys_nil_58_59 w)
  have HK := Lib.hid hK
  have HS := Lib.hid hS
  have HB := Lib.hid (fun o => (Below.refl w.heap.size w).alloc (Nat.le_refl _) o)
  clear hK hS
  go_enter Try.func42, Try.ntmps42
  go_wp2_with fail
  refine HK.out.mono ?_
  rintro e w1 ⟨rfl, hw1⟩
  subst hw1
  go_wp2_with fail
  refine HS.out.mono ?_
  rintro e w2 ⟨v, ss, rfl, hss, hrow, hnil, hb⟩
  obtain rfl := hnil.2 hss
  have HF := Lib.hid (show Below w.heap.size w w2 from (HB.out _).trans (hb.mono (by simp)))
  clear hss hrow hnil hb
  go_wp2_with fail
  go_ret
  exact ⟨rfl, HF.out⟩
set_option maxRecDepth 100000 in
theorem nob_list (w : World) (v : Value) (h : Nob w v) : Calls Try.prog 18 #[v] w (NobC (.slice none 0 0) w) := by
  rcases h with rfl | ⟨g, rfl, hg⟩
  · go_enter Try.func18, Try.ntmps18
    go_wp2_with fail
    go_ret
    exact ⟨rfl, Below.refl _ _⟩
  · have c3 : w.cell? ⟨g, 3, none⟩ = some (.bool false) := by rw [cell_of_row w g 3 _ _ _ hg]; rfl
    have HN := Lib.hid (nob_names g w (by rw [cell_of_row w g 0 _ _ _ hg]; rfl))
    clear hg
    go_enter Try.func18, Try.ntmps18
    go_wp2_with fail
    refine HN.out.mono ?_
    rintro e w1 ⟨rfl, hb⟩
    have HB := Lib.hid hb
    clear hb
    go_wp2_with fail
    go_ret
    exact ⟨rfl, HB.out⟩
end Go.Proofs.Ytkpbgpnpheaegaa.DK
