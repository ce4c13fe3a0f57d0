/-
  The states of the code's reader over whole events and batches, beside what the plain lists say. No program of its own; no condition. Rows by codecs: any row is appended to a row of the call's own. No program; no condition. A row by a codec that is filled from its head on, element by element. No program; no condition.
-/
import Derived.Test.YtgacfihidpijeaaZE18
import Derived.Test.YtgacfihidpijeaaZE3
import Derived.Laws.AppendOwnNone
import Derived.Deep.MidRow
set_option linter.unusedVariables false
namespace Go.Proofs.Ytgacfihidpijeaa.EV
open Go Go.RowKit Go.Proofs.Ytgacfihidpijeaa.MM Go.Proofs.Ytgacfihidpijeaa.EM Go.Proofs.Ytgacfihidpijeaa.VM

theorem num_ok {m : Nat} {l : List UInt8} (o : Bool) (h : (getL l).2.2 = 0) (h2 : (getL l).1 ≤ m) : numSt m l o = ((getL l).1, l.drop (getL l).2.1, o) := by
  unfold numSt VG.restL
  rw [if_pos ⟨h, h2⟩, if_pos h]
theorem num_no {m : Nat} {l : List UInt8} (o : Bool) (h : (getL l).2.2 ≠ 0 ∨ m < (getL l).1) : numSt m l o = (0, [], true) := by
  unfold numSt
  rw [if_neg (fun hc => h.elim (fun h => h hc.1) (fun h => by omega))]
theorem num_le (m : Nat) (l : List UInt8) (o : Bool) : (numSt m l o).1 ≤ m := by
  unfold numSt
  split
  · rename_i h; exact h.2
  · exact Nat.zero_le _
theorem num_odd (m : Nat) (l : List UInt8) : (numSt m l true).2.2 = true := by
  unfold numSt
  split <;> rfl
theorem tim_ok {l : List UInt8} (o : Bool) (h : (getI l).2.2 = 0) : timSt l o = ((getI l).1, l.drop (getI l).2.1, o) := by
  unfold timSt VG.restL
  have h' : (getL l).2.2 = 0 := h
  rw [if_pos h', h]
  simp [getI]
theorem tim_no {l : List UInt8} (o : Bool) (h : (getI l).2.2 ≠ 0) : (timSt l o).2.2 = true := by
  unfold timSt
  have : ((getI l).2.2 != 0) = true := by rw [bne_iff_ne]; exact h
  simp [this]
theorem tim_odd (l : List UInt8) : (timSt l true).2.2 = true := by unfold timSt; simp
theorem txt_ok {m : Int} {l : List UInt8} (o : Bool) (h : (getT l m).2.2 = 0) : txtSt m l o = ((getT l m).1, l.drop (getT l m).2.1, o) := by
  unfold txtSt VG.restT
  rw [if_pos h, h]
  simp
theorem txt_no {m : Int} {l : List UInt8} (o : Bool) (h : (getT l m).2.2 ≠ 0) : (txtSt m l o).2.2 = true := by
  unfold txtSt
  have : ((getT l m).2.2 != 0) = true := by rw [bne_iff_ne]; exact h
  simp [this]
theorem txt_odd (m : Int) (l : List UInt8) : (txtSt m l true).2.2 = true := by unfold txtSt; simp

/-! ### fields -/
abbrev FSt := List Fld × List UInt8 × Bool
/-- A field more. -/
def stepF (s : FSt) : FSt :=
  (s.1 ++ [((txtSt 32 s.2.1 s.2.2).1, (txtSt 4096 (txtSt 32 s.2.1 s.2.2).2.1 (txtSt 32 s.2.1 s.2.2).2.2).1)], (txtSt 4096 (txtSt 32 s.2.1 s.2.2).2.1 (txtSt 32 s.2.1 s.2.2).2.2).2.1, (txtSt 4096 (txtSt 32 s.2.1 s.2.2).2.1 (txtSt 32 s.2.1 s.2.2).2.2).2.2)
def fldsN : Nat → FSt → FSt
  | 0, s => s
  | k + 1, s => stepF (fldsN k s)
theorem fldsN_front : ∀ (k : Nat) (s : FSt), fldsN (k + 1) s = fldsN k (stepF s)
  | 0, s => rfl
  | k + 1, s => by rw [fldsN, fldsN_front k s, ← fldsN]
theorem stepF_odd {s : FSt} (h : s.2.2 = true) : (stepF s).2.2 = true := by
  unfold stepF
  rw [h]
  have := txt_odd 32 s.2.1
  rw [this]
  exact txt_odd _ _
theorem fldsN_odd : ∀ (k : Nat) {s : FSt}, s.2.2 = true → (fldsN k s).2.2 = true
  | 0, _, h => h
  | k + 1, _, h => stepF_odd (fldsN_odd k h)
theorem fldsN_len : ∀ (k : Nat) (s : FSt), (fldsN k s).1.length = s.1.length + k
  | 0, s => rfl
  | k + 1, s => by rw [fldsN]; unfold stepF; simp [fldsN_len k s]; omega
theorem flds_some : ∀ (k : Nat) (acc : List Fld) (l : List UInt8) (o : Bool) (fs : List Fld) (r : List UInt8), getFa k acc l = some (fs, r) → fldsN k (acc, l, o) = (fs, r, o)
  | 0, acc, l, o, fs, r, h => by
    rw [getFa] at h
    simp only [Option.some.injEq, Prod.mk.injEq] at h
    rw [fldsN, h.1, h.2]
  | k + 1, acc, l, o, fs, r, h => by
    rw [getFa] at h
    split at h
    · cases h
    · rename_i hn
      have h1 : (getT l 32).2.2 = 0 := Classical.byContradiction fun hc => hn (.inl hc)
      have h2 : (getT (l.drop (getT l 32).2.1) 4096).2.2 = 0 := Classical.byContradiction fun hc => hn (.inr hc)
      rw [fldsN_front]
      have e : stepF (acc, l, o) = (acc ++ [((getT l 32).1, (getT (l.drop (getT l 32).2.1) 4096).1)], (l.drop (getT l 32).2.1).drop (getT (l.drop (getT l 32).2.1) 4096).2.1, o) := by
        unfold stepF
        dsimp only
        rw [txt_ok o h1]
        dsimp only
        rw [txt_ok o h2]
      rw [e]
      exact flds_some k _ _ _ _ _ h
theorem flds_none : ∀ (k : Nat) (acc : List Fld) (l : List UInt8) (o : Bool), getFa k acc l = none → (fldsN k (acc, l, o)).2.2 = true
  | 0, acc, l, o, h => by rw [getFa] at h; cases h
  | k + 1, acc, l, o, h => by
    rw [getFa] at h
    rw [fldsN_front]
    by_cases h1 : (getT l 32).2.2 = 0
    · by_cases h2 : (getT (l.drop (getT l 32).2.1) 4096).2.2 = 0
      · rw [if_neg (fun hc => hc.elim (fun h => h h1) (fun h => h h2))] at h
        have e : stepF (acc, l, o) = (acc ++ [((getT l 32).1, (getT (l.drop (getT l 32).2.1) 4096).1)], (l.drop (getT l 32).2.1).drop (getT (l.drop (getT l 32).2.1) 4096).2.1, o) := by
          unfold stepF
          dsimp only
          rw [txt_ok o h1]
          dsimp only
          rw [txt_ok o h2]
        rw [e]
        exact flds_none k _ _ _ h
      · refine fldsN_odd k ?_
        unfold stepF
        dsimp only
        rw [txt_ok o h1]
        dsimp only
        exact txt_no o h2
    · refine fldsN_odd k ?_
      unfold stepF
      dsimp only
      rw [txt_no o h1]
      exact txt_odd _ _

/-! ### events -/
def evSt (l : List UInt8) (o : Bool) : Ev × List UInt8 × Bool :=
  (((timSt l o).1, (fldsN (numSt 16 (timSt l o).2.1 (timSt l o).2.2).1 ([], (numSt 16 (timSt l o).2.1 (timSt l o).2.2).2.1, (numSt 16 (timSt l o).2.1 (timSt l o).2.2).2.2)).1),
    (fldsN (numSt 16 (timSt l o).2.1 (timSt l o).2.2).1 ([], (numSt 16 (timSt l o).2.1 (timSt l o).2.2).2.1, (numSt 16 (timSt l o).2.1 (timSt l o).2.2).2.2)).2.1,
    (fldsN (numSt 16 (timSt l o).2.1 (timSt l o).2.2).1 ([], (numSt 16 (timSt l o).2.1 (timSt l o).2.2).2.1, (numSt 16 (timSt l o).2.1 (timSt l o).2.2).2.2)).2.2)
theorem evSt_odd (l : List UInt8) : (evSt l true).2.2 = true := by
  unfold evSt
  dsimp only
  refine fldsN_odd _ ?_
  dsimp only
  rw [tim_odd]
  exact num_odd _ _
theorem evSt_len (l : List UInt8) (o : Bool) : (evSt l o).1.2.length ≤ 16 := by
  unfold evSt
  dsimp only
  rw [fldsN_len]
  have := num_le 16 (timSt l o).2.1 (timSt l o).2.2
  simp only [List.length_nil]
  omega
theorem ev_some {l r : List UInt8} {e : Ev} (o : Bool) (h : rdE l = some (e, r)) : evSt l o = (e, r, o) := by
  unfold rdE at h
  split at h
  · cases h
  · rename_i h1
    split at h
    · cases h
    · rename_i h2
      have h1 : (getI l).2.2 = 0 := by simpa using h1
      have h3 : (getL (l.drop (getI l).2.1)).2.2 = 0 := Classical.byContradiction fun hc => h2 (.inl hc)
      have h4 : (getL (l.drop (getI l).2.1)).1 ≤ 16 := Nat.not_lt.1 fun hc => h2 (.inr hc)
      cases hg : getFa (getL (l.drop (getI l).2.1)).1 [] ((l.drop (getI l).2.1).drop (getL (l.drop (getI l).2.1)).2.1) with
      | none => rw [hg] at h; cases h
      | some p =>
        obtain ⟨fs, r2⟩ := p
        rw [hg] at h
        simp only [Option.some.injEq, Prod.mk.injEq] at h
        obtain ⟨rfl, rfl⟩ := h
        unfold evSt
        rw [tim_ok o h1]
        dsimp only
        rw [num_ok o h3 h4]
        dsimp only
        rw [flds_some _ _ _ o _ _ hg]
theorem ev_none {l : List UInt8} (o : Bool) (h : rdE l = none) : (evSt l o).2.2 = true := by
  unfold evSt
  dsimp only
  by_cases h1 : (getI l).2.2 = 0
  · rw [tim_ok o h1]
    dsimp only
    by_cases h2 : (getL (l.drop (getI l).2.1)).2.2 ≠ 0 ∨ 16 < (getL (l.drop (getI l).2.1)).1
    · rw [num_no o h2]
      exact fldsN_odd _ rfl
    · have h3 : (getL (l.drop (getI l).2.1)).2.2 = 0 := Classical.byContradiction fun hc => h2 (.inl hc)
      have h4 : (getL (l.drop (getI l).2.1)).1 ≤ 16 := Nat.not_lt.1 fun hc => h2 (.inr hc)
      rw [num_ok o h3 h4]
      dsimp only
      unfold rdE at h
      rw [if_neg (by simpa using h1), if_neg h2] at h
      cases hg : getFa (getL (l.drop (getI l).2.1)).1 [] ((l.drop (getI l).2.1).drop (getL (l.drop (getI l).2.1)).2.1) with
      | none => exact flds_none _ _ _ _ hg
      | some p => rw [hg] at h; cases h
  · refine fldsN_odd _ ?_
    dsimp only
    rw [tim_no o h1]
    exact num_odd _ _

/-! ### batches -/
abbrev BSt := List Ev × List UInt8 × Bool
def stepE (s : BSt) : BSt := (s.1 ++ [(evSt s.2.1 s.2.2).1], (evSt s.2.1 s.2.2).2.1, (evSt s.2.1 s.2.2).2.2)
def evsN : Nat → BSt → BSt
  | 0, s => s
  | k + 1, s => stepE (evsN k s)
theorem evsN_front : ∀ (k : Nat) (s : BSt), evsN (k + 1) s = evsN k (stepE s)
  | 0, s => rfl
  | k + 1, s => by rw [evsN, evsN_front k s, ← evsN]
theorem evsN_odd : ∀ (k : Nat) {s : BSt}, s.2.2 = true → (evsN k s).2.2 = true
  | 0, _, h => h
  | k + 1, s, h => by
    rw [evsN]
    unfold stepE
    dsimp only
    rw [evsN_odd k h]
    exact evSt_odd _
theorem evsN_len : ∀ (k : Nat) (s : BSt), (evsN k s).1.length = s.1.length + k
  | 0, s => rfl
  | k + 1, s => by rw [evsN]; unfold stepE; simp [evsN_len k s]; omega
theorem evsN_mem : ∀ (k : Nat) {s : BSt} {e : Ev}, e ∈ s.1 → e ∈ (evsN k s).1
  | 0, _, _, h => h
  | k + 1, s, e, h => by
    rw [evsN]
    unfold stepE
    exact List.mem_append_left _ (evsN_mem k h)
theorem evs_some : ∀ (k : Nat) (acc : List Ev) (l : List UInt8) (o : Bool) (es : List Ev) (r : List UInt8), getBa k acc l = some (es, r) → evsN k (acc, l, o) = (es, r, o)
  | 0, acc, l, o, es, r, h => by
    rw [getBa] at h
    simp only [Option.some.injEq, Prod.mk.injEq] at h
    rw [evsN, h.1, h.2]
  | k + 1, acc, l, o, es, r, h => by
    rw [getBa] at h
    cases hg : getE l with
    | none => rw [hg] at h; cases h
    | some p =>
      obtain ⟨e, r1⟩ := p
      rw [hg] at h
      dsimp only at h
      have hr : rdE l = some (e, r1) := by
        unfold getE at hg
        cases hr : rdE l with
        | none => rw [hr] at hg; cases hg
        | some q =>
          rw [hr] at hg
          obtain ⟨e2, r2⟩ := q
          dsimp only at hg
          split at hg
          · rw [Option.some.injEq] at hg; rw [hg]
          · cases hg
      rw [evsN_front]
      have e : stepE (acc, l, o) = (acc ++ [e], r1, o) := by
        unfold stepE
        dsimp only
        rw [ev_some o hr]
      rw [e]
      exact evs_some k _ _ _ _ _ h
theorem evs_none : ∀ (k : Nat) (acc : List Ev) (l : List UInt8) (o : Bool), getBa k acc l = none → (evsN k (acc, l, o)).2.2 = true ∨ ∃ e ∈ (evsN k (acc, l, o)).1, checkE e ≠ 0
  | 0, acc, l, o, h => by rw [getBa] at h; cases h
  | k + 1, acc, l, o, h => by
    rw [getBa] at h
    rw [evsN_front]
    cases hr : rdE l with
    | none =>
      refine .inl (evsN_odd k ?_)
      unfold stepE
      exact ev_none o hr
    | some q =>
      obtain ⟨e, r⟩ := q
      have es : stepE (acc, l, o) = (acc ++ [e], r, o) := by
        unfold stepE
        dsimp only
        rw [ev_some o hr]
      rw [es]
      by_cases hc : checkE e = 0
      · have hg : getE l = some (e, r) := by unfold getE; rw [hr]; dsimp only; rw [if_pos hc]
        rw [hg] at h
        exact evs_none k _ _ _ h
      · exact .inr ⟨e, evsN_mem k (by simp), hc⟩
/-- What the code's Decode has read. -/
def decSt (l : List UInt8) : Bat × List UInt8 × Bool :=
  (((numSt 1099511627776 l false).1, (evsN (numSt 64 (numSt 1099511627776 l false).2.1 (numSt 1099511627776 l false).2.2).1 ([], (numSt 64 (numSt 1099511627776 l false).2.1 (numSt 1099511627776 l false).2.2).2.1, (numSt 64 (numSt 1099511627776 l false).2.1 (numSt 1099511627776 l false).2.2).2.2)).1),
    (evsN (numSt 64 (numSt 1099511627776 l false).2.1 (numSt 1099511627776 l false).2.2).1 ([], (numSt 64 (numSt 1099511627776 l false).2.1 (numSt 1099511627776 l false).2.2).2.1, (numSt 64 (numSt 1099511627776 l false).2.1 (numSt 1099511627776 l false).2.2).2.2)).2.1,
    (evsN (numSt 64 (numSt 1099511627776 l false).2.1 (numSt 1099511627776 l false).2.2).1 ([], (numSt 64 (numSt 1099511627776 l false).2.1 (numSt 1099511627776 l false).2.2).2.1, (numSt 64 (numSt 1099511627776 l false).2.1 (numSt 1099511627776 l false).2.2).2.2)).2.2)
theorem decSt_some {l r : List UInt8} {b : Bat} (h : rdB l = some (b, r)) : decSt l = (b, r, false) := by
  unfold rdB at h
  split at h
  · cases h
  · rename_i h1
    split at h
    · cases h
    · rename_i h2
      have a1 : (getL l).2.2 = 0 := Classical.byContradiction fun hc => h1 (.inl hc)
      have a2 : (getL l).1 ≤ 1099511627776 := Nat.not_lt.1 fun hc => h1 (.inr hc)
      have a3 : (getL (l.drop (getL l).2.1)).2.2 = 0 := Classical.byContradiction fun hc => h2 (.inl hc)
      have a4 : (getL (l.drop (getL l).2.1)).1 ≤ 64 := Nat.not_lt.1 fun hc => h2 (.inr hc)
      cases hg : getBa (getL (l.drop (getL l).2.1)).1 [] ((l.drop (getL l).2.1).drop (getL (l.drop (getL l).2.1)).2.1) with
      | none => rw [hg] at h; cases h
      | some p =>
        obtain ⟨es, r2⟩ := p
        rw [hg] at h
        simp only [Option.some.injEq, Prod.mk.injEq] at h
        obtain ⟨rfl, rfl⟩ := h
        unfold decSt
        rw [num_ok false a1 a2]
        dsimp only
        rw [num_ok false a3 a4]
        dsimp only
        rw [evs_some _ _ _ false _ _ hg]
theorem decSt_none {l : List UInt8} (h : rdB l = none) : (decSt l).2.2 = true ∨ ∃ e ∈ (decSt l).1.2, checkE e ≠ 0 := by
  unfold decSt
  dsimp only
  by_cases h1 : (getL l).2.2 ≠ 0 ∨ 1099511627776 < (getL l).1
  · rw [num_no false h1]
    refine .inl (evsN_odd _ ?_)
    exact num_odd _ _
  · have a1 : (getL l).2.2 = 0 := Classical.byContradiction fun hc => h1 (.inl hc)
    have a2 : (getL l).1 ≤ 1099511627776 := Nat.not_lt.1 fun hc => h1 (.inr hc)
    rw [num_ok false a1 a2]
    dsimp only
    by_cases h2 : (getL (l.drop (getL l).2.1)).2.2 ≠ 0 ∨ 64 < (getL (l.drop (getL l).2.1)).1
    · rw [num_no false h2]
      exact .inl (evsN_odd _ rfl)
    · have a3 : (getL (l.drop (getL l).2.1)).2.2 = 0 := Classical.byContradiction fun hc => h2 (.inl hc)
      have a4 : (getL (l.drop (getL l).2.1)).1 ≤ 64 := Nat.not_lt.1 fun hc => h2 (.inr hc)
      rw [num_ok false a3 a4]
      dsimp only
      unfold rdB at h
      rw [if_neg h1, if_neg h2] at h
      cases hg : getBa (getL (l.drop (getL l).2.1)).1 [] ((l.drop (getL l).2.1).drop (getL (l.drop (getL l).2.1)).2.1) with
      | none => exact evs_none _ _ _ _ hg
      | some p => rw [hg] at h; cases h
end Go.Proofs.Ytgacfihidpijeaa.EV
set_option linter.unusedVariables false
namespace Go.Proofs.Ytgacfihidpijeaa.MM
open Go Go.RowKit

section
variable {α : Type} {C : Codec α}
/-- append(row, xs...), whatever row that lies apart. -/
theorem wpList_append_ron {P : Program} {T e : TypeId} {bytes : Nat} (E : Elem C P T e bytes) {w : World} {ops : Array Oper} {rest : List Oper} {o : Oper} {a : Act} {Q : Exit → Act → World → Prop} (hgd : o.guard = none) (s x : Operand)
    (ho : o.op = .call { callee := .builtin .append, args := #[s, x], argTypes := #[T, T] }) (B : Nat) (v : Value) (es : List α) (hs : a.eval s = v) (hown : OwnC C e B w v es)
    (src : Value) (ds : List α) (hx : a.eval x = src) (hr : ROn C (Apt e B w) w src ds) (hlen : es.length + ds.length ≤ maxLen) (hby : (es.length + ds.length) * bytes ≤ 140737488355328) (hbase : B ≤ w.heap.size)
    (h : ∀ v' w', OwnC C e B w' v' (es ++ ds) → Below B w w' → Kep (fun k => v.ownBlock ≠ some k) w w' → wpList P ops Q rest (a.put o.dst v') w') : wpList P ops Q (o :: rest) a w := by
  obtain ⟨p, cap, raw, rfl, h1, h2, h3, hm, hc⟩ := hr
  cases p with
  | none =>
    have h0 := h3 rfl
    subst h0
    have hd : ds = [] := List.eq_nil_of_length_eq_zero (by omega)
    subst hd
    obtain ⟨i, z, hi, hz, hsz, hbt, hzs⟩ := E.info
    obtain ⟨raw1, g1, g2⟩ := id hown
    refine wpList_append_own_none hgd s x T ho B e i C.size E.under hi v es.length _ hs g1 hx (h v w ?_ (Below.refl _ _) (Kep.refl _ _))
    rw [List.append_nil]
    exact hown
  | some ad =>
    refine wpList_plain hgd fun _ hK => wp_append_cs E s x ho B v es hs hown (some ad) ds.length cap raw ds hx rfl (fun _ h => by cases h) hm (fun hne => ?_) (by simp) hlen hby hbase fun v' w' h4 h5 h6 => hK _ _ (h v' w' h4 h5 h6)
    rcases hc with hc | ⟨b, off, hp, _, _, hc⟩
    · exact absurd hc hne
    · exact ⟨b, off, hp, hc⟩
/-! ### rows of the call's own whose inner blocks lie in a set -/
variable (C)
/-- A row of the call's own, from block B on; what lies behind its cells lies in S. -/
def OwnX (e : TypeId) (B : Nat) (S : Nat → Prop) (w : World) (v : Value) (es : List α) : Prop := ∃ raw, w.ownsRow B e C.size v es.length raw.flatten ∧ Mean C S w raw es
/-- What is appended: elements whose inner blocks lie in S, wherever their cells lie. -/
def SrcX (S : Nat → Prop) (w : World) (v : Value) (ds : List α) : Prop :=
  ∃ (p : Option Addr) (cap : Nat) (raw : List (List Value)), v = .slice p ds.length cap ∧ ds.length ≤ cap ∧ (p = none → cap = 0) ∧ Mean C S w raw ds ∧ (ds = [] ∨ ∃ b off, p = some ⟨b, off, none⟩ ∧ ∀ j u, raw.flatten[j]? = some u → w.cell? ⟨b, off + j, none⟩ = some u)
variable {C}
theorem ROn.src {S : Nat → Prop} {w : World} {v : Value} {ds : List α} (h : ROn C S w v ds) : SrcX C S w v ds := by
  obtain ⟨p, cap, raw, hv, h1, h2, h3, hm, hc⟩ := h
  refine ⟨p, cap, raw, hv, h1, h3, hm, ?_⟩
  rcases hc with hc | ⟨b, off, hp, _, _, hc⟩
  · exact .inl hc
  · exact .inr ⟨b, off, hp, hc⟩
/-- A literal of one element. -/
theorem src_lit {S : Nat → Prop} {w : World} {vs : List Value} {d : α} (e : TypeId) (h : C.on S w vs d) : SrcX C S (w.alloc (.cells vs.toArray e)) (.slice (some ⟨w.heap.size, 0, none⟩) 1 1) [d] := by
  refine ⟨_, 1, [vs], rfl, Nat.le_refl _, (fun h => by cases h), ⟨rfl, fun i hi hi' => ?_⟩, .inr ⟨w.heap.size, 0, rfl, fun j u hj => ?_⟩⟩
  · obtain rfl : i = 0 := (by simpa using hi)
    exact C.keep h (kep_alloc _ _ _) fun _ _ h => h
  · rw [List.flatten_singleton] at hj
    have := lit_cells w vs e j u hj
    rw [add_at] at this
    exact this
theorem OwnX.nil_ (e : TypeId) (B : Nat) (S : Nat → Prop) (w : World) : OwnX C e B S w (.slice none 0 0) [] := ⟨[], World.ownsRow_nil _ _ _ _, Mean.nil_ _ _⟩
/-- A literal of no element. -/
theorem OwnX.lit0 (e : TypeId) {B : Nat} (S : Nat → Prop) (w : World) (hB : B ≤ w.heap.size) : OwnX C e B S (w.alloc (.cells #[] e)) (.slice (some ⟨w.heap.size, 0, none⟩) 0 0) [] := by
  refine ⟨[], ?_, Mean.nil_ _ _⟩
  have := World.ownsRow_lit (e := e) (base := B) (size := C.size) w #[] 0 hB (Nat.zero_le _) (by simp)
  simpa using this
theorem OwnX.cells {e : TypeId} {B : Nat} {S : Nat → Prop} {w : World} {v : Value} {es : List α} (h : OwnX C e B S w v es) {g : Nat} (hg : v.ownBlock = some g) : B ≤ g ∧ g < w.heap.size ∧ ∃ cur fr, w.heap[g]? = some (.cells cur e fr) := by
  obtain ⟨raw, h1, _⟩ := h
  exact ⟨(own_cells h1 hg).1, (World.ownsRow.lt h1 g hg).2, (own_cells h1 hg).2⟩
theorem OwnX.keep {e : TypeId} {B : Nat} {S T : Nat → Prop} {w w' : World} {v : Value} {es : List α} (h : OwnX C e B S w v es) (hk : Kep T w w') (hS : ∀ b, b < w.heap.size → S b → T b) (hg : ∀ g, v.ownBlock = some g → T g) : OwnX C e B S w' v es := by
  obtain ⟨raw, h1, h2⟩ := h
  refine ⟨raw, own_row_kep h1 hk hg, h2.1, fun i hi hi' => ?_⟩
  exact C.keep (C.keep (h2.2 i hi hi') (Kep.refl _ _) (T := fun b => S b ∧ b < w.heap.size) fun b hb hs => ⟨hs, hb⟩) (hk.mono' (T := fun b => S b ∧ b < w.heap.size) fun b hb hs => hS b hb hs.1) fun b hb hs => hs.1
theorem OwnX.weak {e : TypeId} {B : Nat} {S T : Nat → Prop} {w : World} {v : Value} {es : List α} (h : OwnX C e B S w v es) (hT : ∀ b, b < w.heap.size → S b → T b) : OwnX C e B T w v es := by
  obtain ⟨raw, h1, h2⟩ := h
  exact ⟨raw, h1, h2.keep (Kep.refl _ _) hT⟩
theorem OwnX.alloc {e : TypeId} {B : Nat} {S : Nat → Prop} {w : World} {v : Value} {es : List α} (h : OwnX C e B S w v es) (o : Obj) : OwnX C e B S (w.alloc o) v es := h.keep (kep_alloc (fun _ => True) w o) (fun _ _ _ => trivial) (fun _ _ => trivial)
theorem OwnX.ron {e : TypeId} {B : Nat} {S T : Nat → Prop} {w : World} {v : Value} {es : List α} (h : OwnX C e B S w v es) (h1 : ∀ g, v.ownBlock = some g → T g) (h2 : ∀ b, b < w.heap.size → S b → T b) : ROn C T w v es := by
  obtain ⟨raw, ho, hm⟩ := h
  rcases ho.2 with ⟨rfl, h0⟩ | ⟨g, cap, cur, rfl, hg, hh, hnc, hmx, hs, ht⟩
  · have : es = [] := List.eq_nil_of_length_eq_zero h0
    subst this
    exact ROn.nil_ _ _
  · refine ⟨some ⟨g, 0, none⟩, cap, raw, rfl, hnc, hmx, (fun h => by cases h), hm.keep (Kep.refl _ _) h2, .inr ⟨g, 0, rfl, (Array.getElem?_eq_some_iff.1 hh).1, h1 g rfl, fun j u hj => ?_⟩⟩
    have := Lib.cells_of_row hh (es.length * C.size) j u (by rw [ht]; exact hj)
    rw [add_at] at this
    exact this
theorem OwnX.any {e : TypeId} {B : Nat} {S : Nat → Prop} {w : World} {v : Value} {es : List α} (h : OwnX C e B S w v es) : RAny C w v es := h.ron (fun _ _ => trivial) (fun _ _ _ => trivial)
/-- append(row, xs...). -/
theorem wpList_append_x {P : Program} {T e : TypeId} {bytes : Nat} (E : Elem C P T e bytes) {S : Nat → Prop} {w : World} {ops : Array Oper} {rest : List Oper} {o : Oper} {a : Act} {Q : Exit → Act → World → Prop} (hgd : o.guard = none) (s x : Operand)
    (ho : o.op = .call { callee := .builtin .append, args := #[s, x], argTypes := #[T, T] }) (B : Nat) (v : Value) (es : List α) (hs : a.eval s = v) (hown : OwnX C e B S w v es) (hS : ∀ b, b < w.heap.size → S b → Apt e B w b)
    (src : Value) (ds : List α) (hx : a.eval x = src) (hr : SrcX C S w src ds) (hlen : es.length + ds.length ≤ maxLen) (hby : (es.length + ds.length) * bytes ≤ 140737488355328) (hbase : B ≤ w.heap.size)
    (h : ∀ v' w', OwnX C e B S w' v' (es ++ ds) → Below B w w' → Kep (fun k => v.ownBlock ≠ some k) w w' → wpList P ops Q rest (a.put o.dst v') w') : wpList P ops Q (o :: rest) a w := by
  obtain ⟨p, cap, raw, rfl, h1, h3, hm, hc⟩ := hr
  obtain ⟨i, z, hi, hz, hsz, hbt, hzs⟩ := E.info
  cases p with
  | none =>
    have h0 := h3 rfl
    subst h0
    have hd : ds = [] := List.eq_nil_of_length_eq_zero (by omega)
    subst hd
    obtain ⟨raw1, g1, g2⟩ := id hown
    refine wpList_append_own_none hgd s x T ho B e i C.size E.under hi v es.length _ hs g1 hx (h v w ?_ (Below.refl _ _) (Kep.refl _ _))
    rw [List.append_nil]
    exact hown
  | some ad =>
    refine wpList_plain hgd fun _ hK => ?_
    obtain ⟨raw1, g1, g2⟩ := hown
    have hlo : ∀ k, v.ownBlock = some k → B ≤ k := fun k hk => (World.ownsRow.lt g1 k hk).1
    have hl : raw.flatten.length = ds.length * C.size := by rw [flat_len hm.lens, hm.1]
    refine wp_append_own _ s x T ho B e i z C.size bytes E.under hi hz hsz hbt hzs C.pos v es.length _ hs g1 ad ds.length cap raw.flatten hx hl ?_ hm.ones hlen hby hbase (fun v' w' h4 hg _ => ?_)
    · intro j u hj
      rcases hc with hc | ⟨b, off, he, hc⟩
      · subst hc
        have : raw = [] := List.eq_nil_of_length_eq_zero (by rw [hm.1]; rfl)
        subst this
        simp at hj
      · obtain rfl : ad = ⟨b, off, none⟩ := Option.some.inj he
        rw [add_at]
        exact hc j u hj
    · have hb : Below B w w' := (Below.refl B _).grown hg hbase hlo
      have hk : Kep (Apt e B w) w w' := kep_grown hg fun k hk hA => apt_not_own g1 hA hk
      refine hK _ _ (h v' w' ⟨raw1 ++ raw, ?_, ?_⟩ hb (kep_grown hg fun k hk hne => hne hk))
      · rw [List.length_append, List.flatten_append]
        exact h4
      · have hm2 := g2.append hm
        refine ⟨hm2.1, fun i hi hi' => ?_⟩
        exact C.keep (C.keep (hm2.2 i hi hi') (Kep.refl _ _) (T := fun b => S b ∧ b < w.heap.size) fun b hb hs => ⟨hs, hb⟩) (hk.mono' (T := fun b => S b ∧ b < w.heap.size) fun b hb hs => hS b hb hs.1) fun b hb hs => hs.1
/-- append(row, x), as a step. -/
theorem wp_append_x1 {P : Program} {T e : TypeId} {bytes : Nat} (E : Elem C P T e bytes) {S : Nat → Prop} {w : World} {o : Oper} {a : Act} {K : Act → World → Prop} {Q : Exit → Act → World → Prop} (s x : Operand)
    (ho : o.op = .call { callee := .builtin .append, args := #[s, x], argTypes := #[T, T] }) (B : Nat) (v : Value) (es : List α) (w0 : World) (vs : List Value) (d : α) (hw : w = w0.alloc (.cells vs.toArray e)) (hs : a.eval s = v) (hown : OwnX C e B S w0 v es) (hS : ∀ b, b < w0.heap.size → S b → Apt e B w0 b)
    (hd : C.on S w0 vs d) (hx : a.eval x = .slice (some ⟨w0.heap.size, 0, none⟩) 1 1) (hlen : es.length + 1 ≤ maxLen) (hby : (es.length + 1) * bytes ≤ 140737488355328) (hbase : B ≤ w0.heap.size)
    (h : ∀ v' w', OwnX C e B S w' v' (es ++ [d]) → Below B w0 w' → Kep (fun k => v.ownBlock ≠ some k) w w' → (∃ g cap, v' = .slice (some ⟨g, 0, none⟩) (es.length + 1) cap) → K (a.put o.dst v') w') : o.wp P a w K Q := by
  subst hw
  have hb0 : Below w0.heap.size w0 (w0.alloc (.cells vs.toArray e)) := (Below.refl _ _).alloc (Nat.le_refl _) _
  obtain ⟨i, z, hi, hz, hsz, hbt, hzs⟩ := E.info
  obtain ⟨raw, g1, g2⟩ := hown
  have h1 := own_keep (B := 0) g1 hb0
  have hlo : ∀ k, v.ownBlock = some k → B ≤ k := fun k hk => (World.ownsRow.lt h1 k hk).1
  have hl := C.len hd
  refine wp_append_own _ s x T ho B e i z C.size bytes E.under hi hz hsz hbt hzs C.pos v es.length _ hs h1 ⟨w0.heap.size, 0, none⟩ 1 1 vs hx (by rw [hl, Nat.one_mul]) (lit_cells w0 vs e) (C.one hd) hlen hby (by simp; omega) (fun v' w' h3 hg _ => ?_)
  have hb : Below B (w0.alloc (.cells vs.toArray e)) w' := (Below.refl B _).grown hg (by simp; omega) hlo
  have hko : Kep (fun k => v.ownBlock ≠ some k) w0 w' := (kep_below _ hb0).trans (kep_grown hg fun k hk hne => hne hk)
  have hm0 : Mean C (fun b => S b ∧ b < w0.heap.size) w0 (raw ++ [vs]) (es ++ [d]) := (g2.append (Mean.single hd)).keep (Kep.refl _ _) fun b hb hs => ⟨hs, hb⟩
  have hm : Mean C (fun b => S b ∧ b < w0.heap.size) w' (raw ++ [vs]) (es ++ [d]) := hm0.keep (hko.mono' (T := fun b => S b ∧ b < w0.heap.size) fun b hb hs he => apt_not_own g1 (hS b hb hs.1) he) fun b hb hs => hs
  refine h v' w' ⟨raw ++ [vs], ?_, hm.keep (Kep.refl _ _) fun b _ hs => hs.1⟩ ((hb0.mono hbase).trans hb) (kep_grown hg fun k hk hne => hne hk) ?_
  · rw [List.length_append, List.flatten_append, List.flatten_singleton]
    exact h3
  · rcases h3.2 with ⟨_, h0⟩ | ⟨g, cap, cur, hv, _⟩
    · omega
    · exact ⟨g, cap, hv⟩
/-- What lay below B lies apart. -/
theorem bel_apt {e : TypeId} {B : Nat} {w : World} {v : Value} {es : List α} (h : RBel C B w v es) : ROn C (Apt e B w) w v es := ROn.weak h fun b _ hb => .inl hb
end
end Go.Proofs.Ytgacfihidpijeaa.MM
set_option linter.unusedVariables false
namespace Go.Proofs.Ytgacfihidpijeaa.MM
open Go Go.RowKit

section
variable {α : Type} (C : Codec α)
def HalfX (e : TypeId) (S : Nat → Prop) (w : World) (g n : Nat) (es : List α) : Prop :=
  g < w.heap.size ∧ w.there g 0 (n * C.size) ∧ ∃ raw, Mean C S w raw es ∧ w.rangeAt g 0 raw.flatten
variable {C}
theorem HalfX.start {e : TypeId} {S : Nat → Prop} {B : Nat} {w : World} {g n : Nat} {xs : List Value} (h : w.ownsRow B e C.size (.slice (some ⟨g, 0, none⟩) n n) n xs) : HalfX C e S w g n [] := by
  rcases h.2 with ⟨hv, _⟩ | ⟨g', cap, cur, hv, hb, hh, hn, hm, hs, ht⟩
  · cases hv
  · simp only [Value.slice.injEq, Option.some.injEq, Addr.mk.injEq] at hv
    obtain ⟨⟨rfl, _⟩, _, rfl⟩ := hv
    refine ⟨(Array.getElem?_eq_some_iff.1 hh).1, fun j hj => ⟨?_, frozen_of_row w g _ cur _ hh⟩, [], Mean.nil_ _ _, fun j v hj => by simp at hj⟩
    obtain ⟨u, hu⟩ : ∃ u, (cur.toList.take (n * C.size))[j]? = some u := ⟨_, List.getElem?_eq_getElem (by rw [List.length_take, Array.length_toList]; omega)⟩
    have := Lib.cells_of_row hh (n * C.size) j u hu
    rw [add_at] at this
    rw [this]; rfl
theorem HalfX.keep {e : TypeId} {S T : Nat → Prop} {w w' : World} {g n : Nat} {es : List α} (h : HalfX C e S w g n es) (hk : Kep T w w') (hg : T g) (hS : ∀ b, b < w.heap.size → S b → T b) : HalfX C e S w' g n es := by
  obtain ⟨h1, h2, raw, hm, hr⟩ := h
  refine ⟨Nat.lt_of_lt_of_le h1 hk.size, fun j hj => ?_, raw, ⟨hm.1, fun i hi hi' => ?_⟩, fun j v hj => ?_⟩
  · have hb := hk.block g h1 hg
    rw [World.cell?_of_block (a := ⟨g, 0 + j, none⟩) hb, World.frozen?_of_block (a := ⟨g, 0 + j, none⟩) hb]
    exact h2 j hj
  · exact C.keep (C.keep (hm.2 i hi hi') (Kep.refl _ _) (T := fun b => S b ∧ b < w.heap.size) fun b hb hs => ⟨hs, hb⟩) (hk.mono' (T := fun b => S b ∧ b < w.heap.size) fun b hb hs => hS b hb hs.1) fun b hb hs => hs.1
  · rw [hk.cell h1 hg]; exact hr j v hj
theorem kep_sets {g : Nat} (vs : List Value) : ∀ (w : World) (o : Nat), Kep (fun b => b ≠ g) w (w.setCells g o vs) := by
  induction vs with
  | nil => exact fun w _ => Kep.refl _ w
  | cons v vs ih => exact fun w o => (kep_set (fun h => h rfl) v).trans (ih _ _)
theorem HalfX.there {e : TypeId} {S : Nat → Prop} {w : World} {g n : Nat} {es : List α} (h : HalfX C e S w g n es) {k : Nat} (hk : k < n) : w.there g (k * C.size) C.size := fun j hj => by
  have hm := Nat.mul_le_mul_right C.size (show k + 1 ≤ n from hk)
  rw [Nat.succ_mul] at hm
  have := h.2.1 (k * C.size + j) (by omega)
  rw [Nat.zero_add] at this
  exact this
/-- The next element is stored. -/
theorem HalfX.next {e : TypeId} {S : Nat → Prop} {w : World} {g n : Nat} {es : List α} (h : HalfX C e S w g n es) (hk : es.length < n) {vs : List Value} {d : α} (hd : C.on S w vs d) (hS : ¬ S g) :
    HalfX C e S (w.setCells g (es.length * C.size) vs) g n (es ++ [d]) := by
  have hth := h.there hk
  obtain ⟨h1, h2, raw, hm, hr⟩ := h
  have hl := C.len hd
  have hks : Kep (fun b => b ≠ g) w (w.setCells g (es.length * C.size) vs) := kep_sets vs w _
  have hkS : Kep S w (w.setCells g (es.length * C.size) vs) := hks.mono fun b hb e => hS (e ▸ hb)
  refine ⟨Nat.lt_of_lt_of_le h1 hks.size, World.there_setCells h2 _ _ _, raw ++ [vs], (hm.append (Mean.single hd)).keep hkS fun _ _ h => h, ?_⟩
  have hfl := flat_len hm.lens
  have e1 := World.rangeAt_setCells_apart hr g (es.length * C.size) vs (.inr (.inl (by rw [hfl, hm.1]; omega)))
  have e2 := World.rangeAt_setCells_same w g (es.length * C.size) vs (by rw [hl]; exact hth)
  intro j v hj
  rw [List.flatten_append, List.flatten_singleton] at hj
  by_cases hlt : j < raw.flatten.length
  · rw [List.getElem?_append_left hlt] at hj
    exact e1 j v hj
  · rw [List.getElem?_append_right (by omega)] at hj
    have := e2 _ v hj
    rw [hfl, hm.1] at this
    rw [hfl, hm.1] at hlt
    rw [show es.length * C.size + (j - es.length * C.size) = 0 + j by omega] at this
    exact this
theorem HalfX.ron {e : TypeId} {S T : Nat → Prop} {w : World} {g n : Nat} {es : List α} (h : HalfX C e S w g n es) (hn : es.length = n) (hm : n ≤ maxLen) (hg : T g) (hS : ∀ b, b < w.heap.size → S b → T b) : ROn C T w (.slice (some ⟨g, 0, none⟩) n n) es := by
  obtain ⟨h1, h2, raw, hmn, hr⟩ := h
  subst hn
  exact ⟨some ⟨g, 0, none⟩, es.length, raw, rfl, Nat.le_refl _, hm, (fun h => by cases h), hmn.keep (Kep.refl _ _) hS, .inr ⟨g, 0, rfl, h1, hg, hr⟩⟩
end
end Go.Proofs.Ytgacfihidpijeaa.MM
