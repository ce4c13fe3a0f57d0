/-
  The reference's Split: what the plain lists say. Condition: fewer than 2^30 bytes.
-/
import Derived.Test.YtfnohcmoaooghaaFrmRows
set_option linter.unusedVariables false
namespace Go.Proofs.Ytfnohcmoaooghaa.FG
open Go.RowKit Go.Proofs.Ytfnohcmoaooghaa.MM Go.Proofs.Ytfnohcmoaooghaa.VM Go.Proofs.Ytfnohcmoaooghaa.CM Go.Proofs.Ytfnohcmoaooghaa.FM Go.Proofs.Ytfnohcmoaooghaa.VP Go.Proofs.Ytfnohcmoaooghaa.CR Go.Proofs.Ytfnohcmoaooghaa.FP Go.Proofs.Ytfnohcmoaooghaa.VG

/-- The payloads, how many bytes, the error's number. -/
def SplitTold (ps : List (List UInt8)) (k : Nat) (er : Int) (w : World) (e : Ending) (w' : World) : Prop :=
  ∃ v', e = .returned (.tuple #[v', .int .i64 k, .int .i64 er]) ∧ PRow w' v' ps ∧ Below w.heap.size w w'
/-- How far it has come. -/
def Way (b : List UInt8) (ps : List (List UInt8)) (k : Nat) (er : Int) (pre : List (List UInt8)) (r : List UInt8) : Prop :=
  ∃ qs m, pre ++ qs = ps ∧ Splits r qs m er ∧ (framesL pre).length + r.length = b.length ∧ k = (framesL pre).length + m
def lenAt : Value → Nat | .slice _ n _ => n | _ => 0
theorem way_nil {b : List UInt8} {ps : List (List UInt8)} {k : Nat} {er : Int} {pre : List (List UInt8)} (h : Way b ps k er pre []) : pre = ps ∧ k = b.length ∧ er = 0 := by
  obtain ⟨qs, m, h1, h2, h3, h4⟩ := h
  obtain ⟨rfl, rfl, rfl⟩ := h2.unique .none_
  simp at h1 h3
  exact ⟨h1, by omega, rfl⟩
theorem way_step {b : List UInt8} {ps : List (List UInt8)} {k : Nat} {er : Int} {pre : List (List UInt8)} {r : List UInt8} (h : Way b ps k er pre r) (hr : r ≠ []) :
    (getR r = ([], 0, er) ∧ er ≠ 0 ∧ restR r = [] ∧ pre = ps ∧ k + r.length = b.length) ∨
    (∃ p s, (getR r).1 = p ∧ (getR r).2.2 = 0 ∧ restR r = s ∧ s.length < r.length ∧ Way b ps k er (pre ++ [p]) s) := by
  obtain ⟨qs, m, h1, h2, h3, h4⟩ := h
  cases h2 with
  | none_ => exact absurd rfl hr
  | stop _ hg he => exact .inl ⟨hg, he, restR_err hg he, by simpa using h1, by omega⟩
  | more hp hs =>
    rename_i p s qs m
    refine .inr ⟨p, s, by rw [getR_put hp], by rw [getR_put hp], restR_put hp s, by have := (frameL_bounds p).1; rw [List.length_append]; omega, qs, m, by rw [List.append_assoc]; exact h1, hs, ?_, ?_⟩
    · rw [framesL_append, framesL_cons, framesL_nil, List.append_nil, List.length_append]
      rw [List.length_append] at h3
      omega
    · rw [framesL_append, framesL_cons, framesL_nil, List.append_nil, List.length_append]
      omega
theorem way_len {b : List UInt8} {ps : List (List UInt8)} {k : Nat} {er : Int} {pre : List (List UInt8)} {r : List UInt8} (h : Way b ps k er pre r) : pre.length ≤ b.length := by
  obtain ⟨qs, m, h1, h2, h3, h4⟩ := h
  have : ∀ l : List (List UInt8), l.length ≤ (framesL l).length := fun l => by
    induction l with
    | nil => simp
    | cons p l ih =>
      have := (frameL_bounds p).1
      rw [framesL_cons, List.length_append, List.length_cons]
      omega
  have := this pre
  omega

set_option maxRecDepth 100000 in
set_option maxHeartbeats 1000000 in
theorem rsplit_any (v : Value) (b : List UInt8) (w : World) (hr : BRow w v b) (ps : List (List UInt8)) (k : Nat) (er : Int) (hs : Splits b ps k er) (hlen : b.length ≤ 1073741824) :
    Calls Try.prog 19 #[v] w (SplitTold ps k er w) := by
  obtain ⟨p, cap, rfl, hlc, hcm⟩ := hr.shape
  unfold maxLen at hcm
  have HW0 : Hid (Way b ps k er [] b) := Lib.hid ⟨ps, k, rfl, hs, by simp [framesL], by simp [framesL]⟩
  have HR0 : Hid (BIn w.heap.size w (.slice p b.length cap) b) := Lib.hid hr
  have HO0 : Hid (OwnP w.heap.size w (.slice none 0 0) []) := Lib.hid (OwnP.nil_ _ _)
  clear hr hs
  go_enter Try.func19, Try.ntmps19
  go_wp2_with fail
  go_loopw [0, 5] (fun u o wr => ∃ (pre : List (List UInt8)) (r : List UInt8), Hid (Way b ps k er pre r) ∧ Hid (BIn w.heap.size wr u r) ∧ Hid (OwnP w.heap.size wr o pre) ∧ Hid (Below w.heap.size w wr)) (fun u _ _ => lenAt u)
  case atStart => exact ⟨[], b, HW0, HR0, HO0, Lib.hid (Below.refl _ _)⟩
  case round =>
    obtain ⟨pre, r, HW, HR, HO, HB⟩ := hrel
    clear HW0 HR0 HO0
    obtain ⟨q, capq, rfl, hqc, hqm⟩ := HR.out.shape
    unfold maxLen at hqm
    by_cases hrn : r = []
    · subst hrn
      obtain ⟨rfl, rfl, rfl⟩ := way_nil HW.out
      have HP := Lib.hid (HO.out.prow HB.out.size)
      clear HW HO
      go_wp2_with fail
      go_ret3
      exact ⟨_, rfl, HP.out, HB.out⟩
    · have hrl : 0 < r.length := List.length_pos_iff.2 hrn
      have t1 : decide ((r.length : Int) > 0) = true := by simp; omega
      have hG := rget_part w.heap.size _ r wr HR.out HB.out.size
      have hpre := way_len HW.out
      rcases way_step HW.out hrn with ⟨hg, he, hrest, rfl, hk⟩ | ⟨p1, s, hg1, hg2, hrest, hsl, hw⟩
      · rw [hg, hrest] at hG
        have HG := Lib.hid hG
        have t2 : (er != 0) = true := by simp [he]
        have hki : (b.length : Int) - (r.length : Int) = (k : Int) := by omega
        clear hG HW hg hrest hk
        go_wp2_with fail
        refine HG.out.mono ?_
        rintro e w2 ⟨vp, vr, rfl, _, _, hb2⟩
        have HB2 := Lib.hid (grow HB.out hb2)
        have HP := Lib.hid ((HO.out.keep hb2 HB.out.size).prow HB2.out.size)
        clear hb2 HO HR
        go_wp2_with fail
        go_ret3
        exact ⟨_, rfl, HP.out, HB2.out⟩
      · rw [hg1, hg2, hrest] at hG
        have HG := Lib.hid hG
        have HW2 := Lib.hid hw
        clear hG HW hg1 hg2 hrest hw
        go_wp2_with fail
        refine HG.out.mono ?_
        rintro e w2 ⟨vp, vr, rfl, hp, hq, hb2⟩
        obtain ⟨px, capx, rfl, _, _⟩ := hp.shape
        have hb0 : Below w2.heap.size w2 (w2.alloc (.cells #[.slice px p1.length capx] 22)) := (Below.refl _ _).alloc (Nat.le_refl _) _
        have HB2 := Lib.hid (grow HB.out hb2)
        have hsz2 := HB2.out.size
        have HOa := Lib.hid ((HO.out.keep hb2 HB.out.size).keep hb0 hsz2)
        have HX := Lib.hid (hp.below (hb0.mono hsz2))
        have HQ := Lib.hid (hq.below (hb0.mono hsz2))
        have HBa := Lib.hid (HB2.out.trans (hb0.mono hsz2))
        clear hp hq hb2 hb0 HO HR
        go_wp2_with (at_builtin; refine wpList_append_part rfl _ _ rfl w.heap.size _ pre rfl HOa.out (.slice px p1.length capx) p1 rfl _ rfl (row_one w2 _) HX.out (by omega) (by simp; omega) ?_)
        intro v6 w6 hown6 hb6
        have HO6 := Lib.hid hown6
        have HB6 := Lib.hid (HBa.out.trans hb6)
        have HQ6 := Lib.hid (HQ.out.below hb6)
        obtain ⟨py, capy, rfl, _, _⟩ := HQ6.out.shape
        clear hown6 hb6
        go_wp2_with fail
        go_roundw
        case rel => exact ⟨pre ++ [p1], s, HW2, HQ6, HO6, HB6⟩
        case measure => exact hsl
end Go.Proofs.Ytfnohcmoaooghaa.FG
