/-
  The states of the code's reader over whole events and batches, beside what the plain lists say. No program of its own; no condition. An event's bytes: the reference's. Conditions: 16 fields, texts of 4096 bytes at most.
-/
import Derived.Test.YthgfaadlnffpcaaZA17
import Derived.Test.YthgfaadlnffpcaaZA22
import Derived.Test.YthgfaadlnffpcaaZA21
set_option linter.unusedVariables false
namespace Go.Proofs.Ythgfaadlnffpcaa.EV
open Go Go.RowKit Go.Proofs.Ythgfaadlnffpcaa.MM Go.Proofs.Ythgfaadlnffpcaa.EM Go.Proofs.Ythgfaadlnffpcaa.VM

theorem num_ok {m : Nat} {l : List UInt8} (o : Bool) (h : (getL l).2.2 = 0) (h2 : (getL l).1 ≤ m) : numSt m l o = ((getL l).1, l.drop (getL l).2.1, o) := by
  unfold numSt VG.restL
  rw [if_pos ⟨h, h2⟩, if_pos h]
theorem num_no {m : Nat} {l : List UInt8} (o : Bool) (h : (getL l).2.2 ≠ 0 ∨ m < (getL l).1) : numSt m l o = (0, [], true) := by
  unfold numSt
  rw [if_neg (fun hc => h.elim (fun h => h hc.1) (fun h => by omega))]
theorem num_le (m : Nat) (l : List UInt8) (o : Bool) : (numSt m l o).1 ≤ m := by
  unfold numSt
  split
  · rename_i h; exact h.2
  · exact Nat.zero_le _
theorem num_odd (m : Nat) (l : List UInt8) : (numSt m l true).2.2 = true := by
  unfold numSt
  split <;> rfl
theorem tim_ok {l : List UInt8} (o : Bool) (h : (getI l).2.2 = 0) : timSt l o = ((getI l).1, l.drop (getI l).2.1, o) := by
  unfold timSt VG.restL
  have h' : (getL l).2.2 = 0 := h
  rw [if_pos h', h]
  simp [getI]
theorem tim_no {l : List UInt8} (o : Bool) (h : (getI l).2.2 ≠ 0) : (timSt l o).2.2 = true := by
  unfold timSt
  have : ((getI l).2.2 != 0) = true := by rw [bne_iff_ne]; exact h
  simp [this]
theorem tim_odd (l : List UInt8) : (timSt l true).2.2 = true := by unfold timSt; simp
theorem txt_ok {m : Int} {l : List UInt8} (o : Bool) (h : (getT l m).2.2 = 0) : txtSt m l o = ((getT l m).1, l.drop (getT l m).2.1, o) := by
  unfold txtSt VG.restT
  rw [if_pos h, h]
  simp
theorem txt_no {m : Int} {l : List UInt8} (o : Bool) (h : (getT l m).2.2 ≠ 0) : (txtSt m l o).2.2 = true := by
  unfold txtSt
  have : ((getT l m).2.2 != 0) = true := by rw [bne_iff_ne]; exact h
  simp [this]
theorem txt_odd (m : Int) (l : List UInt8) : (txtSt m l true).2.2 = true := by unfold txtSt; simp

/-! ### fields -/
abbrev FSt := List Fld × List UInt8 × Bool
/-- A field more. -/
def stepF (s : FSt) : FSt :=
  (s.1 ++ [((txtSt 32 s.2.1 s.2.2).1, (txtSt 4096 (txtSt 32 s.2.1 s.2.2).2.1 (txtSt 32 s.2.1 s.2.2).2.2).1)], (txtSt 4096 (txtSt 32 s.2.1 s.2.2).2.1 (txtSt 32 s.2.1 s.2.2).2.2).2.1, (txtSt 4096 (txtSt 32 s.2.1 s.2.2).2.1 (txtSt 32 s.2.1 s.2.2).2.2).2.2)
def fldsN : Nat → FSt → FSt
  | 0, s => s
  | k + 1, s => stepF (fldsN k s)
theorem fldsN_front : ∀ (k : Nat) (s : FSt), fldsN (k + 1) s = fldsN k (stepF s)
  | 0, s => rfl
  | k + 1, s => by rw [fldsN, fldsN_front k s, ← fldsN]
theorem stepF_odd {s : FSt} (h : s.2.2 = true) : (stepF s).2.2 = true := by
  unfold stepF
  rw [h]
  have := txt_odd 32 s.2.1
  rw [this]
  exact txt_odd _ _
theorem fldsN_odd : ∀ (k : Nat) {s : FSt}, s.2.2 = true → (fldsN k s).2.2 = true
  | 0, _, h => h
  | k + 1, _, h => stepF_odd (fldsN_odd k h)
theorem fldsN_len : ∀ (k : Nat) (s : FSt), (fldsN k s).1.length = s.1.length + k
  | 0, s => rfl
  | k + 1, s => by rw [fldsN]; unfold stepF; simp [fldsN_len k s]; omega
theorem flds_some : ∀ (k : Nat) (acc : List Fld) (l : List UInt8) (o : Bool) (fs : List Fld) (r : List UInt8), getFa k acc l = some (fs, r) → fldsN k (acc, l, o) = (fs, r, o)
  | 0, acc, l, o, fs, r, h => by
    rw [getFa] at h
    simp only [Option.some.injEq, Prod.mk.injEq] at h
    rw [fldsN, h.1, h.2]
  | k + 1, acc, l, o, fs, r, h => by
    rw [getFa] at h
    split at h
    · cases h
    · rename_i hn
      have h1 : (getT l 32).2.2 = 0 := Classical.byContradiction fun hc => hn (.inl hc)
      have h2 : (getT (l.drop (getT l 32).2.1) 4096).2.2 = 0 := Classical.byContradiction fun hc => hn (.inr hc)
      rw [fldsN_front]
      have e : stepF (acc, l, o) = (acc ++ [((getT l 32).1, (getT (l.drop (getT l 32).2.1) 4096).1)], (l.drop (getT l 32).2.1).drop (getT (l.drop (getT l 32).2.1) 4096).2.1, o) := by
        unfold stepF
        dsimp only
        rw [txt_ok o h1]
        dsimp only
        rw [txt_ok o h2]
      rw [e]
      exact flds_some k _ _ _ _ _ h
theorem flds_none : ∀ (k : Nat) (acc : List Fld) (l : List UInt8) (o : Bool), getFa k acc l = none → (fldsN k (acc, l, o)).2.2 = true
  | 0, acc, l, o, h => by rw [getFa] at h; cases h
  | k + 1, acc, l, o, h => by
    rw [getFa] at h
    rw [fldsN_front]
    by_cases h1 : (getT l 32).2.2 = 0
    · by_cases h2 : (getT (l.drop (getT l 32).2.1) 4096).2.2 = 0
      · rw [if_neg (fun hc => hc.elim (fun h => h h1) (fun h => h h2))] at h
        have e : stepF (acc, l, o) = (acc ++ [((getT l 32).1, (getT (l.drop (getT l 32).2.1) 4096).1)], (l.drop (getT l 32).2.1).drop (getT (l.drop (getT l 32).2.1) 4096).2.1, o) := by
          unfold stepF
          dsimp only
          rw [txt_ok o h1]
          dsimp only
          rw [txt_ok o h2]
        rw [e]
        exact flds_none k _ _ _ h
      · refine fldsN_odd k ?_
        unfold stepF
        dsimp only
        rw [txt_ok o h1]
        dsimp only
        exact txt_no o h2
    · refine fldsN_odd k ?_
      unfold stepF
      dsimp only
      rw [txt_no o h1]
      exact txt_odd _ _

/-! ### events -/
def evSt (l : List UInt8) (o : Bool) : Ev × List UInt8 × Bool :=
  (((timSt l o).1, (fldsN (numSt 16 (timSt l o).2.1 (timSt l o).2.2).1 ([], (numSt 16 (timSt l o).2.1 (timSt l o).2.2).2.1, (numSt 16 (timSt l o).2.1 (timSt l o).2.2).2.2)).1),
    (fldsN (numSt 16 (timSt l o).2.1 (timSt l o).2.2).1 ([], (numSt 16 (timSt l o).2.1 (timSt l o).2.2).2.1, (numSt 16 (timSt l o).2.1 (timSt l o).2.2).2.2)).2.1,
    (fldsN (numSt 16 (timSt l o).2.1 (timSt l o).2.2).1 ([], (numSt 16 (timSt l o).2.1 (timSt l o).2.2).2.1, (numSt 16 (timSt l o).2.1 (timSt l o).2.2).2.2)).2.2)
theorem evSt_odd (l : List UInt8) : (evSt l true).2.2 = true := by
  unfold evSt
  dsimp only
  refine fldsN_odd _ ?_
  dsimp only
  rw [tim_odd]
  exact num_odd _ _
theorem evSt_len (l : List UInt8) (o : Bool) : (evSt l o).1.2.length ≤ 16 := by
  unfold evSt
  dsimp only
  rw [fldsN_len]
  have := num_le 16 (timSt l o).2.1 (timSt l o).2.2
  simp only [List.length_nil]
  omega
theorem ev_some {l r : List UInt8} {e : Ev} (o : Bool) (h : rdE l = some (e, r)) : evSt l o = (e, r, o) := by
  unfold rdE at h
  split at h
  · cases h
  · rename_i h1
    split at h
    · cases h
    · rename_i h2
      have h1 : (getI l).2.2 = 0 := by simpa using h1
      have h3 : (getL (l.drop (getI l).2.1)).2.2 = 0 := Classical.byContradiction fun hc => h2 (.inl hc)
      have h4 : (getL (l.drop (getI l).2.1)).1 ≤ 16 := Nat.not_lt.1 fun hc => h2 (.inr hc)
      cases hg : getFa (getL (l.drop (getI l).2.1)).1 [] ((l.drop (getI l).2.1).drop (getL (l.drop (getI l).2.1)).2.1) with
      | none => rw [hg] at h; cases h
      | some p =>
        obtain ⟨fs, r2⟩ := p
        rw [hg] at h
        simp only [Option.some.injEq, Prod.mk.injEq] at h
        obtain ⟨rfl, rfl⟩ := h
        unfold evSt
        rw [tim_ok o h1]
        dsimp only
        rw [num_ok o h3 h4]
        dsimp only
        rw [flds_some _ _ _ o _ _ hg]
theorem ev_none {l : List UInt8} (o : Bool) (h : rdE l = none) : (evSt l o).2.2 = true := by
  unfold evSt
  dsimp only
  by_cases h1 : (getI l).2.2 = 0
  · rw [tim_ok o h1]
    dsimp only
    by_cases h2 : (getL (l.drop (getI l).2.1)).2.2 ≠ 0 ∨ 16 < (getL (l.drop (getI l).2.1)).1
    · rw [num_no o h2]
      exact fldsN_odd _ rfl
    · have h3 : (getL (l.drop (getI l).2.1)).2.2 = 0 := Classical.byContradiction fun hc => h2 (.inl hc)
      have h4 : (getL (l.drop (getI l).2.1)).1 ≤ 16 := Nat.not_lt.1 fun hc => h2 (.inr hc)
      rw [num_ok o h3 h4]
      dsimp only
      unfold rdE at h
      rw [if_neg (by simpa using h1), if_neg h2] at h
      cases hg : getFa (getL (l.drop (getI l).2.1)).1 [] ((l.drop (getI l).2.1).drop (getL (l.drop (getI l).2.1)).2.1) with
      | none => exact flds_none _ _ _ _ hg
      | some p => rw [hg] at h; cases h
  · refine fldsN_odd _ ?_
    dsimp only
    rw [tim_no o h1]
    exact num_odd _ _

/-! ### batches -/
abbrev BSt := List Ev × List UInt8 × Bool
def stepE (s : BSt) : BSt := (s.1 ++ [(evSt s.2.1 s.2.2).1], (evSt s.2.1 s.2.2).2.1, (evSt s.2.1 s.2.2).2.2)
def evsN : Nat → BSt → BSt
  | 0, s => s
  | k + 1, s => stepE (evsN k s)
theorem evsN_front : ∀ (k : Nat) (s : BSt), evsN (k + 1) s = evsN k (stepE s)
  | 0, s => rfl
  | k + 1, s => by rw [evsN, evsN_front k s, ← evsN]
theorem evsN_odd : ∀ (k : Nat) {s : BSt}, s.2.2 = true → (evsN k s).2.2 = true
  | 0, _, h => h
  | k + 1, s, h => by
    rw [evsN]
    unfold stepE
    dsimp only
    rw [evsN_odd k h]
    exact evSt_odd _
theorem evsN_len : ∀ (k : Nat) (s : BSt), (evsN k s).1.length = s.1.length + k
  | 0, s => rfl
  | k + 1, s => by rw [evsN]; unfold stepE; simp [evsN_len k s]; omega
theorem evsN_mem : ∀ (k : Nat) {s : BSt} {e : Ev}, e ∈ s.1 → e ∈ (evsN k s).1
  | 0, _, _, h => h
  | k + 1, s, e, h => by
    rw [evsN]
    unfold stepE
    exact List.mem_append_left _ (evsN_mem k h)
theorem evs_some : ∀ (k : Nat) (acc : List Ev) (l : List UInt8) (o : Bool) (es : List Ev) (r : List UInt8), getBa k acc l = some (es, r) → evsN k (acc, l, o) = (es, r, o)
  | 0, acc, l, o, es, r, h => by
    rw [getBa] at h
    simp only [Option.some.injEq, Prod.mk.injEq] at h
    rw [evsN, h.1, h.2]
  | k + 1, acc, l, o, es, r, h => by
    rw [getBa] at h
    cases hg : getE l with
    | none => rw [hg] at h; cases h
    | some p =>
      obtain ⟨e, r1⟩ := p
      rw [hg] at h
      dsimp only at h
      have hr : rdE l = some (e, r1) := by
        unfold getE at hg
        cases hr : rdE l with
        | none => rw [hr] at hg; cases hg
        | some q =>
          rw [hr] at hg
          obtain ⟨e2, r2⟩ := q
          dsimp only at hg
          split at hg
          · rw [Option.some.injEq] at hg; rw [hg]
          · cases hg
      rw [evsN_front]
      have e : stepE (acc, l, o) = (acc ++ [e], r1, o) := by
        unfold stepE
        dsimp only
        rw [ev_some o hr]
      rw [e]
      exact evs_some k _ _ _ _ _ h
theorem evs_none : ∀ (k : Nat) (acc : List Ev) (l : List UInt8) (o : Bool), getBa k acc l = none → (evsN k (acc, l, o)).2.2 = true ∨ ∃ e ∈ (evsN k (acc, l, o)).1, checkE e ≠ 0
  | 0, acc, l, o, h => by rw [getBa] at h; cases h
  | k + 1, acc, l, o, h => by
    rw [getBa] at h
    rw [evsN_front]
    cases hr : rdE l with
    | none =>
      refine .inl (evsN_odd k ?_)
      unfold stepE
      exact ev_none o hr
    | some q =>
      obtain ⟨e, r⟩ := q
      have es : stepE (acc, l, o) = (acc ++ [e], r, o) := by
        unfold stepE
        dsimp only
        rw [ev_some o hr]
      rw [es]
      by_cases hc : checkE e = 0
      · have hg : getE l = some (e, r) := by unfold getE; rw [hr]; dsimp only; rw [if_pos hc]
        rw [hg] at h
        exact evs_none k _ _ _ h
      · exact .inr ⟨e, evsN_mem k (by simp), hc⟩
/-- What the code's Decode has read. -/
def decSt (l : List UInt8) : Bat × List UInt8 × Bool :=
  (((numSt 1099511627776 l false).1, (evsN (numSt 64 (numSt 1099511627776 l false).2.1 (numSt 1099511627776 l false).2.2).1 ([], (numSt 64 (numSt 1099511627776 l false).2.1 (numSt 1099511627776 l false).2.2).2.1, (numSt 64 (numSt 1099511627776 l false).2.1 (numSt 1099511627776 l false).2.2).2.2)).1),
    (evsN (numSt 64 (numSt 1099511627776 l false).2.1 (numSt 1099511627776 l false).2.2).1 ([], (numSt 64 (numSt 1099511627776 l false).2.1 (numSt 1099511627776 l false).2.2).2.1, (numSt 64 (numSt 1099511627776 l false).2.1 (numSt 1099511627776 l false).2.2).2.2)).2.1,
    (evsN (numSt 64 (numSt 1099511627776 l false).2.1 (numSt 1099511627776 l false).2.2).1 ([], (numSt 64 (numSt 1099511627776 l false).2.1 (numSt 1099511627776 l false).2.2).2.1, (numSt 64 (numSt 1099511627776 l false).2.1 (numSt 1099511627776 l false).2.2).2.2)).2.2)
theorem decSt_some {l r : List UInt8} {b : Bat} (h : rdB l = some (b, r)) : decSt l = (b, r, false) := by
  unfold rdB at h
  split at h
  · cases h
  · rename_i h1
    split at h
    · cases h
    · rename_i h2
      have a1 : (getL l).2.2 = 0 := Classical.byContradiction fun hc => h1 (.inl hc)
      have a2 : (getL l).1 ≤ 1099511627776 := Nat.not_lt.1 fun hc => h1 (.inr hc)
      have a3 : (getL (l.drop (getL l).2.1)).2.2 = 0 := Classical.byContradiction fun hc => h2 (.inl hc)
      have a4 : (getL (l.drop (getL l).2.1)).1 ≤ 64 := Nat.not_lt.1 fun hc => h2 (.inr hc)
      cases hg : getBa (getL (l.drop (getL l).2.1)).1 [] ((l.drop (getL l).2.1).drop (getL (l.drop (getL l).2.1)).2.1) with
      | none => rw [hg] at h; cases h
      | some p =>
        obtain ⟨es, r2⟩ := p
        rw [hg] at h
        simp only [Option.some.injEq, Prod.mk.injEq] at h
        obtain ⟨rfl, rfl⟩ := h
        unfold decSt
        rw [num_ok false a1 a2]
        dsimp only
        rw [num_ok false a3 a4]
        dsimp only
        rw [evs_some _ _ _ false _ _ hg]
theorem decSt_none {l : List UInt8} (h : rdB l = none) : (decSt l).2.2 = true ∨ ∃ e ∈ (decSt l).1.2, checkE e ≠ 0 := by
  unfold decSt
  dsimp only
  by_cases h1 : (getL l).2.2 ≠ 0 ∨ 1099511627776 < (getL l).1
  · rw [num_no false h1]
    refine .inl (evsN_odd _ ?_)
    exact num_odd _ _
  · have a1 : (getL l).2.2 = 0 := Classical.byContradiction fun hc => h1 (.inl hc)
    have a2 : (getL l).1 ≤ 1099511627776 := Nat.not_lt.1 fun hc => h1 (.inr hc)
    rw [num_ok false a1 a2]
    dsimp only
    by_cases h2 : (getL (l.drop (getL l).2.1)).2.2 ≠ 0 ∨ 64 < (getL (l.drop (getL l).2.1)).1
    · rw [num_no false h2]
      exact .inl (evsN_odd _ rfl)
    · have a3 : (getL (l.drop (getL l).2.1)).2.2 = 0 := Classical.byContradiction fun hc => h2 (.inl hc)
      have a4 : (getL (l.drop (getL l).2.1)).1 ≤ 64 := Nat.not_lt.1 fun hc => h2 (.inr hc)
      rw [num_ok false a3 a4]
      dsimp only
      unfold rdB at h
      rw [if_neg h1, if_neg h2] at h
      cases hg : getBa (getL (l.drop (getL l).2.1)).1 [] ((l.drop (getL l).2.1).drop (getL (l.drop (getL l).2.1)).2.1) with
      | none => exact evs_none _ _ _ _ hg
      | some p => rw [hg] at h; cases h
end Go.Proofs.Ythgfaadlnffpcaa.EV
set_option linter.unusedVariables false
namespace Go.Proofs.Ythgfaadlnffpcaa.EV
open Go Go.RowKit Go.Proofs.Ythgfaadlnffpcaa.MM Go.Proofs.Ythgfaadlnffpcaa.EM Go.Proofs.Ythgfaadlnffpcaa.VM Go.Proofs.Ythgfaadlnffpcaa.GB
open Go.Proofs.Ythgfaadlnffpcaa.VP

theorem rtext0 (t : List UInt8) (ht : t.length ≤ 4096) (W : World) : Calls Try.prog 57 #[.string ⟨t.toArray⟩] W (PutLeft W.heap.size (textL t) W) := by
  have h := rtext_any ⟨t.toArray⟩ W (by rw [str_sz]; omega)
  rw [str_list] at h
  exact h
theorem grown_low {B : Nat} {wr w' : World} {u u' : Value} {L L' : List UInt8} (hB : B ≤ wr.heap.size) (ho : OwnB B wr u L) (hg : Grown wr w' u u') (ho' : OwnB 0 w' u' L') : OwnB B w' u' L' ∧ Below B wr w' := by
  have h1 : ∀ k, u.ownBlock = some k → B ≤ k := fun k hk => (World.ownsRow.lt ho k hk).1
  refine ⟨OwnB.from ho' fun k hk => ?_, hg.kep.below hB fun k hk e => by have := h1 k e; omega⟩
  rcases hg.2 k hk with e | e
  · exact h1 k e
  · omega

set_option maxRecDepth 100000 in
set_option maxHeartbeats 1000000 in
theorem rbytese_any (z : Int) (u : Value) (fs : List Fld) (w : World) (hr : RAny fldC w u fs) (h0 : -9223372036854775808 ≤ z) (h1 : z ≤ 9223372036854775807) (h16 : fs.length ≤ 16) (hx : ∀ f ∈ fs, f.1.length ≤ 4096 ∧ f.2.length ≤ 4096) :
    Calls Try.prog 39 #[.agg #[.int .i64 z, u]] w (PutLeft w.heap.size (bytesE (z, fs)) w) := by
  have hmx : Try.prog.follows .mixedOrders = true := by kernel_rfl
  obtain ⟨p, cap, rfl, hlc, hcm, _⟩ := hr.shape
  unfold maxLen at hcm
  obtain ⟨wb, hwb⟩ : ∃ wb, evBox w z (.slice p fs.length cap) = wb := ⟨_, rfl⟩
  have hbx := box_below w z (.slice p fs.length cap)
  have hszb := box_size w z (.slice p fs.length cap)
  have hin := fun W (h : Below wb.heap.size wb W) => box_in (w := w) (wr := W) (z := z) (v := .slice p fs.length cap) (by rw [hwb]; exact h)
  rw [hwb] at hbx hszb
  have HLN := Lib.hid (fits fs.length [] fs z h16 hx (by simp))
  have HX := Lib.hid hx
  have HR := Lib.hid hr
  have HBX := Lib.hid hbx
  have HIN := Lib.hid hin
  have HWB := Lib.hid hwb
  have HEND : Hid (intL z ++ bytesL fs.length ++ bytesF (fs.take fs.length) = bytesE (z, fs)) := Lib.hid (by rw [List.take_length]; unfold bytesE; simp)
  clear hr hx hbx hin
  go_enter Try.func39, Try.ntmps39
  go_wp2_with fail
  refine RK.begin_ (T := fun k => k < wb.heap.size) [(0, true), (1, true), (3, true), (4, true), (5, true), (6, true), (2, false), (7, false), (8, false), (9, true)] (by kernel_rfl) (by kernel_rfl) rfl (by kernel_rfl) (fun _ _ d _ _ h => by cases d <;> exact h) ?_
  simp only [RK.ordered, List.map_cons, List.map_nil, List.getElem?_toArray, List.getElem?_cons_succ, List.getElem?_cons_zero]
  change RK.walk _ _ _ _ _ _ (evBox w z (.slice p fs.length cap)).drew
  rw [HWB.out]
  obtain ⟨wd, hwd⟩ : ∃ wd, wb.drew = wd := ⟨_, rfl⟩
  have hbd : Below wb.heap.size wb wd := by rw [← hwd]; exact (Below.refl _ _).drew
  have hcc := HIN.out _ hbd
  have hsd := hbd.size
  have G := Lib.hid (fun W (hW : Kep (fun k => k < wb.heap.size) wd W) => (show W.cell? ⟨w.heap.size, 0, none⟩ = some (.int .i64 z) ∧ W.cell? ⟨w.heap.size, 1, none⟩ = some (.slice p fs.length cap) from
    ⟨(hW.cell (by omega) (by omega) 0).trans hcc.1, (hW.cell (by omega) (by omega) 1).trans hcc.2.1⟩))
  have HBD := Lib.hid hbd
  have HSZ := Lib.hid hszb
  clear hszb
  rw [hwd]
  clear hwd hbd hcc
  repeat (refine RK.take (by rfl) (by intro W hW; obtain ⟨f1, f2⟩ := G.out W hW; go_simp; with_reducible rfl) ?_; simp only [Act.put, List.setIfInBounds_toArray, List.set_cons_zero, List.set_cons_succ])
  have K1 := Lib.hid (rint_any z wd h0 h1)
  refine RK.alone (by rfl) (fun K hK => ?_)
  go_simp
  refine K1.out.mono ?_
  rintro e w1 ⟨v1, rfl, ho1, hb1⟩
  go_simp
  refine hK.out _ _ (kep_below _ hb1) ?_
  clear hK K K1
  have hs1 : wb.heap.size ≤ w1.heap.size := Nat.le_trans hsd hb1.size
  have HO1 := Lib.hid (OwnB.weaken ho1 hsd)
  have HB1 := Lib.hid (HBD.out.trans (hb1.mono hsd))
  clear ho1 hb1
  have K2 := Lib.hid (rbytes_any fs.length w1 (by omega))
  refine RK.alone (by rfl) (fun K hK => ?_)
  go_simp
  rw [show IntKind.u64.wrap (fs.length : Int) = (fs.length : Int) by rw [IntKind.wrap_u64]; omega]
  refine K2.out.mono ?_
  rintro e w2 ⟨v2, rfl, ho2, hb2⟩
  go_simp
  refine hK.out _ _ (kep_below _ hb2) ?_
  clear hK K K2
  have hs2 : wb.heap.size ≤ w2.heap.size := Nat.le_trans hs1 hb2.size
  have HO2 := Lib.hid (HO1.out.keep hb2)
  have HO3 := Lib.hid ho2
  have HB2 := Lib.hid (HB1.out.trans (hb2.mono hs1))
  clear ho2 hb2
  refine RK.alone (by rfl) (fun K hK => ?_)
  refine wp_append_grown _ _ rfl v1 (intL z) rfl (GB.OwnB.zero HO2.out) _ (bytesL fs.length) rfl HO3.out.brow (bytesL_ne _) (by have := HLN.out 0; simp only [List.length_append] at this; omega) ?_
  intro v3 w3 ho3 hg3
  refine hK.out _ _ (hg3.kep.mono fun k hk e => absurd (World.ownsRow.lt HO2.out k e).1 (Nat.not_le.2 hk)) ?_
  clear hK K
  obtain ⟨ho4, hb4⟩ := grown_low hs2 HO2.out hg3 ho3
  have HO4 : Hid (OwnB wb.heap.size w3 v3 (intL z ++ bytesL fs.length ++ bytesF (fs.take 0))) := Lib.hid (by rw [show intL z ++ bytesL fs.length ++ bytesF (fs.take 0) = intL z ++ bytesL fs.length by simp [EM.bytesF]]; exact ho4)
  have HB4 := Lib.hid (HB2.out.trans hb4)
  clear ho3 hg3 ho4 hb4 HO1 HO2 HO3 HB1 HB2
  repeat (refine RK.take (by rfl) (by intro W hW; go_simp; with_reducible rfl) ?_; simp only [Act.put, List.setIfInBounds_toArray, List.set_cons_zero, List.set_cons_succ])
  refine RK.done ?_
  clear G hsd HBD hs1 hs2
  go_wp2_with fail
  go_loopw [3, 4] (fun bv iv wr => ∃ k : Nat, k ≤ fs.length ∧ iv = .int .i64 k ∧ Hid (OwnB wb.heap.size wr bv (intL z ++ bytesL fs.length ++ bytesF (fs.take k))) ∧ Hid (Below wb.heap.size wb wr)) (fun _ iv _ => fs.length - (intOf iv).toNat)
  case atStart => exact ⟨0, by omega, rfl, HO4, HB4⟩
  case round =>
    obtain ⟨k, hk, rfl, HOk, HBk⟩ := hrel
    clear HO4 HB4
    obtain ⟨d0, d1, hbw⟩ := HIN.out _ HBk.out
    have hsr := HBk.out.size
    by_cases hlt : k < fs.length
    · have q1 : decide ((k : Int) < (fs.length : Int)) = true := by rw [decide_eq_true_eq]; omega
      have q2 : decide (k < fs.length) = true := by rw [decide_eq_true_eq]; omega
      have q3 : (k : Int) < (fs.length : Int) := by omega
      obtain ⟨b, off, rfl, hbl, _, c1, c2⟩ := fld_at HR.out hlt
      have e1 := (hbw.cell (p := ⟨b, off + k * 2, none⟩) hbl).trans c1
      have HC2 := Lib.hid c2
      have hxk := HX.out fs[k] (List.getElem_mem hlt)
      have hnx := bytesF_next hlt
      have hll := HLN.out (k + 1)
      rw [hnx, List.nil_append] at hll
      generalize fs[k].1 = nm at *
      generalize fs[k].2 = tx at *
      have hn2 : intL z ++ bytesL fs.length ++ bytesF (fs.take (k + 1)) = intL z ++ bytesL fs.length ++ bytesF (fs.take k) ++ textL nm ++ textL tx := by rw [hnx]; simp
      obtain ⟨L, hL⟩ : ∃ L, intL z ++ bytesL fs.length ++ bytesF (fs.take k) = L := ⟨_, rfl⟩
      have hlen : (L ++ textL nm ++ textL tx).length ≤ 1001000000 := by rw [← hL]; simp only [List.length_append] at hll ⊢; omega
      rw [hL] at hn2
      have ho := HOk.out
      rw [hL] at ho
      have HOL0 := Lib.hid ho
      have HN2 := Lib.hid hn2
      have HT1 := Lib.hid (rtext0 nm hxk.1 wr)
      have HT2 := Lib.hid (fun W => rtext0 tx hxk.2 W)
      have HLT := Lib.hid hlt
      have HBW := Lib.hid hbw
      clear hnx hll hL ho hn2 HOk hlt c1 c2 hbw
      go_wp2_with fail
      refine HT1.out.mono ?_
      rintro e w5 ⟨v5, rfl, ho5, hb5⟩
      have HO5 := Lib.hid ho5
      have HV5 := Lib.hid (HOL0.out.keep hb5)
      have hb15 := HBk.out.trans (hb5.mono hsr)
      have HB5 := Lib.hid hb15
      have hsr5 := hb15.size
      clear ho5 hb5 hb15 HT1 HBk d0 d1 e1 HBW HOL0
      go_wp2_with (at_builtin; go_loud (refine wpList_append_bytes rfl _ _ rfl wb.heap.size u3 L rfl HV5.out _ (textL nm) rfl HO5.out.brow (by simp only [List.length_append] at hlen; omega) hsr5 ?_; intro v6 w6 ho6 hb6; have HO6 := Lib.hid ho6; have hb16 := HB5.out.trans hb6; have HB6 := Lib.hid hb16; have hsr6 := hb16.size; obtain ⟨d0, d1, hbw⟩ := HIN.out _ hb16; have e2 := (hbw.cell (p := ⟨b, off + k * 2 + 1, none⟩) hbl).trans HC2.out; clear ho6 hb6 hb16 hbw))
      refine (HT2.out _).mono ?_
      rintro e w7 ⟨v7, rfl, ho7, hb7⟩
      have HO7 := Lib.hid ho7
      have HV7 := Lib.hid (HO6.out.keep hb7)
      have hb17 := HB6.out.trans (hb7.mono hsr6)
      have HB7 := Lib.hid hb17
      have hsr7 := hb17.size
      clear ho7 hb7 hb17 HT2 d0 d1 e2 HO6 HB6 HB5 HO5 HV5
      go_wp2_with (at_builtin; go_loud (refine wpList_append_bytes rfl _ _ rfl wb.heap.size v6 (L ++ textL nm) rfl HV7.out _ (textL tx) rfl HO7.out.brow (by simp only [List.length_append] at hlen; simp only [List.length_append]; omega) hsr7 ?_; intro v8 w8 ho8 hb8; rw [← HN2.out] at ho8; have HO8 := Lib.hid ho8; have HB8 := Lib.hid (HB7.out.trans hb8); clear ho8 hb8))
      have hlt := HLT.out
      go_roundw
      case rel => exact ⟨k + 1, by omega, by go_num, HO8, HB8⟩
      case measure => simp [intOf]; omega
    · obtain rfl : k = fs.length := by omega
      have q1 : decide ((fs.length : Int) < (fs.length : Int)) = false := by simp
      have q2 : decide (fs.length < fs.length) = false := by simp
      have ho := HOk.out
      rw [HEND.out] at ho
      have HO9 := Lib.hid (OwnB.weaken ho (show w.heap.size ≤ wb.heap.size by rw [HSZ.out]; exact Nat.le_succ _))
      have HB9 := Lib.hid hbw
      clear HOk ho hlt hbw d0
      go_wp2_with fail
      go_ret
      exact ⟨_, rfl, HO9.out, HB9.out⟩
end Go.Proofs.Ythgfaadlnffpcaa.EV
