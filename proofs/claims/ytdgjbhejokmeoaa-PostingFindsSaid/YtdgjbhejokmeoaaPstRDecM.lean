/-
  What the reference takes from bytes. No program; no condition.
-/
import Derived.Test.YtdgjbhejokmeoaaPstDecM
set_option linter.unusedVariables false
namespace Go.Proofs.Ytdgjbhejokmeoaa.PM
open Go.Proofs.Ytdgjbhejokmeoaa.VM

def getR (most : Int) (l : List UInt8) : Nat × List UInt8 × Bool := match numL 0 most l with
  | some (n, r) => (n, r, true)
  | none => (0, [], false)
theorem getR_some {m : Int} {l r : List UInt8} {n : Nat} (h : numL 0 m l = some (n, r)) : getR m l = (n, r, true) := by unfold getR; rw [h]
theorem getR_none {m : Int} {l : List UInt8} (h : numL 0 m l = none) : getR m l = (0, [], false) := by unfold getR; rw [h]
theorem getR_cases (m : Int) (l : List UInt8) : (∃ n r, numL 0 m l = some (n, r) ∧ getR m l = (n, r, true) ∧ (n : Int) ≤ m ∧ r.length < l.length) ∨ (numL 0 m l = none ∧ getR m l = (0, [], false)) := by
  rcases numL_cases 0 m l with ⟨n, r, h⟩ | h
  · have := numL_back h
    exact .inl ⟨n, r, h, getR_some h, this.2.2.2.2, this.2.2.1⟩
  · exact .inr ⟨h, getR_none h⟩
/-- Of a row with these bytes: what stands behind i heads. -/
def CompR (b : List UInt8) (n i : Nat) (l : List UInt8) : Prop := ∀ PS, Dec b PS → PS.length = n ∧ l = headsR PS i (cnt n - i) ++ bodyL 0 PS
theorem compR_start {b l : List UInt8} {n : Nat} {m : Int} (hb : b.length < 4611686018427387904) (h : numL 0 m b = some (n, l)) : CompR b n 0 l := fun PS hPS => by
  obtain ⟨h1, _, h3⟩ := compH_start hb h PS hPS
  exact ⟨h1, h3⟩
theorem compR_none {b : List UInt8} (h : numL 0 65536 b = none) : NoRow b := by
  intro PS hPS
  have hl := dec_len hPS
  have h3 := hPS.2
  unfold encL at h3
  rw [← h3, List.append_assoc, numL_put (by omega) (by omega) (by omega)] at h
  cases h
theorem compR_long {b l : List UInt8} {n : Nat} (h : CompR b n 0 l) (hn : b.length < n) : NoRow b := by
  intro PS hPS
  have hl := dec_len hPS
  have := (h PS hPS).1
  omega
theorem compR_step {b l l1 l2 : List UInt8} {n i x y : Nat} {m1 m2 : Int} (hb : b.length < 4611686018427387904) (h : CompR b n i l) (hi : i < cnt n) (h1 : numL 0 m1 l = some (x, l1)) (h2 : numL 0 m2 l1 = some (y, l2)) : CompR b n (i + 1) l2 := by
  intro PS hPS
  obtain ⟨h3, h5⟩ := h PS hPS
  have hsm := h_small hPS i
  rw [headsR_cons hi, headL, List.append_assoc, List.append_assoc] at h5
  have k1 := numL_back h1
  have k2 := numL_back h2
  rw [k1.1, k2.1] at h5
  obtain ⟨e1, h5⟩ := bytes_det k1.2.1 (by omega) h5
  obtain ⟨e2, h5⟩ := bytes_det k2.2.1 (by omega) h5
  exact ⟨h3, h5⟩
theorem compR_none1 {b l : List UInt8} {n i : Nat} (hb : b.length < 4611686018427387904) (h : CompR b n i l) (hi : i < cnt n) (h1 : numL 0 65535 l = none) : NoRow b := by
  intro PS hPS
  obtain ⟨h3, h5⟩ := h PS hPS
  have hsm := h_small hPS i
  rw [h5, headsR_cons hi, headL, List.append_assoc, List.append_assoc, numL_put (by omega) (by omega) (by omega)] at h1
  cases h1
theorem compR_none2 {b l l1 : List UInt8} {n i x : Nat} (hb : b.length ≤ 1099511627776) (h : CompR b n i l) (hi : i < cnt n) (h1 : numL 0 65535 l = some (x, l1)) (h2 : numL 0 1099511627776 l1 = none) : NoRow b := by
  intro PS hPS
  obtain ⟨h3, h5⟩ := h PS hPS
  have hsm := h_small hPS i
  rw [h5, headsR_cons hi, headL, List.append_assoc, List.append_assoc, numL_put (by omega) (by omega) (by omega)] at h1
  simp only [Option.some.injEq, Prod.mk.injEq] at h1
  rw [← h1.2, numL_put (by omega) (by omega) (by omega)] at h2
  cases h2
theorem compR_end {b l : List UInt8} {n : Nat} (h : CompR b n (cnt n) l) : Comp b n 0 [] l := by
  intro PS hPS
  obtain ⟨h3, h5⟩ := h PS hPS
  rw [Nat.sub_self, headsR, List.nil_append] at h5
  exact ⟨h3, rfl, h5⟩

/-! ### one post -/
theorem rpost_doc {N : Int} {l l1 : List UInt8} {x : Nat} (hN : 0 ≤ N) (h1 : numL 0 65535 l = some (x, l1)) : ∀ p r, PostAt N l p r → p.1 = N + x ∧ l1 = bytesL p.2.length ++ (gapsL 0 p.2 ++ r) := by
  intro p r ⟨hp, hl⟩
  unfold okP at hp
  unfold postL at hl
  rw [List.append_assoc, List.append_assoc] at hl
  rw [hl, numL_put (by omega) (by omega) (by omega)] at h1
  simp only [Option.some.injEq, Prod.mk.injEq] at h1
  exact ⟨by omega, h1.2.symm⟩
theorem rpost_doc_none {N : Int} {l : List UInt8} (hN : 0 ≤ N) (h1 : numL 0 65535 l = none) : ∀ p r, ¬ PostAt N l p r := by
  intro p r ⟨hp, hl⟩
  unfold okP at hp
  unfold postL at hl
  rw [List.append_assoc, List.append_assoc] at hl
  rw [hl, numL_put (by omega) (by omega) (by omega)] at h1
  cases h1
theorem rpost_cnt {N : Int} {l l1 l2 : List UInt8} {x m : Nat} (hN : 0 ≤ N) (h1 : numL 0 65535 l = some (x, l1)) (h2 : numL 0 1048576 l1 = some (m, l2)) : CompP N l (N + x) m 0 [] l2 := by
  intro p r hp
  obtain ⟨e1, e2⟩ := rpost_doc hN h1 p r hp
  have hlen := riseL_len hp.1.2.2.2
  rw [e2, numL_put (by omega) (by omega) (by omega)] at h2
  simp only [Option.some.injEq, Prod.mk.injEq] at h2
  exact ⟨e1, h2.1, rfl, h2.2.symm⟩
theorem rpost_cnt_none {N : Int} {l l1 : List UInt8} {x : Nat} (hN : 0 ≤ N) (h1 : numL 0 65535 l = some (x, l1)) (h2 : numL 0 1048576 l1 = none) : ∀ p r, ¬ PostAt N l p r := by
  intro p r hp
  obtain ⟨e1, e2⟩ := rpost_doc hN h1 p r hp
  have hlen := riseL_len hp.1.2.2.2
  rw [e2, numL_put (by omega) (by omega) (by omega)] at h2
  cases h2
theorem rpost_long {N : Int} {l l2 : List UInt8} {d : Int} {m : Nat} (h : CompP N l d m 0 [] l2) (hm : l2.length < m) : ∀ p r, ¬ PostAt N l p r := by
  intro p r hp
  obtain ⟨e1, e2, _, e4⟩ := h p r hp
  have := (gapsL_len p.2 0).1
  rw [e4, List.length_append] at hm
  simp only [List.drop_zero, lastP] at hm
  omega
theorem compP_key {N : Int} {l lk : List UInt8} {d : Int} {m k : Nat} {qs : List Int} (hc : CompP N l d m k qs lk) (hk : k < m) : ∀ p r, PostAt N l p r → ∃ (hlt : k < p.2.length), lastP 0 qs ≤ p.2[k] ∧ p.2[k] < 1048576 ∧ 0 ≤ lastP 0 qs ∧ lk = bytesL (p.2[k] - lastP 0 qs).toNat ++ (gapsL (p.2[k] + 1) (p.2.drop (k + 1)) ++ r) := by
  intro p r hp
  obtain ⟨h1, h2, h3, h4⟩ := hc p r hp
  have hlt : k < p.2.length := by omega
  have hrp := hp.1.2.2.2
  rw [List.drop_eq_getElem_cons hlt, gapsL, List.append_assoc] at h4
  have e : p.2 = (qs ++ [p.2[k]]) ++ p.2.drop (k + 1) := by
    rw [h3, ← List.take_succ_eq_append_getElem hlt, List.take_append_drop]
  have hsn : riseF 1048576 (0 - 1) (qs ++ [p.2[k]]) = true := by
    have : ∀ (a b : List Int) (n : Int), riseF 1048576 n (a ++ b) = true → riseF 1048576 n a = true := by
      intro a
      induction a with
      | nil => intro b n _; rfl
      | cons z a ih =>
        intro b n hz
        rw [List.cons_append, riseF, Bool.and_eq_true] at hz
        rw [riseF, Bool.and_eq_true]
        exact ⟨hz.1, ih b z hz.2⟩
    rw [e] at hrp
    exact this _ _ _ hrp
  rw [riseF_snoc, Bool.and_eq_true, Bool.and_eq_true, decide_eq_true_eq, decide_eq_true_eq] at hsn
  exact ⟨hlt, hsn.2.1, hsn.2.2, (lastP_bound 1048576 qs 0 (by omega) hsn.1).1, h4⟩
theorem compP_step {N : Int} {l lk l1 : List UInt8} {d : Int} {m k x : Nat} {qs : List Int} (hc : CompP N l d m k qs lk) (hk : k < m) (h1 : numL 0 1048575 lk = some (x, l1)) : CompP N l d m (k + 1) (qs ++ [lastP 0 qs + x]) l1 := by
  intro p r hp
  obtain ⟨e1, e2, e3, e4⟩ := hc p r hp
  obtain ⟨hlt, h2, h3, h0, h4⟩ := compP_key hc hk p r hp
  have k1 := numL_back h1
  rw [k1.1] at h4
  obtain ⟨h5, h6⟩ := bytes_det k1.2.1 (by omega) h4
  have e5 : lastP 0 qs + (x : Int) = p.2[k] := by omega
  refine ⟨e1, e2, ?_, ?_⟩
  · rw [List.take_succ_eq_append_getElem hlt, ← e3, e5]
  · rw [lastP_snoc, h6, e5]
theorem compP_none {N : Int} {l lk : List UInt8} {d : Int} {m k : Nat} {qs : List Int} (hc : CompP N l d m k qs lk) (hk : k < m) (h1 : numL 0 1048575 lk = none) : ∀ p r, ¬ PostAt N l p r := by
  intro p r hp
  obtain ⟨hlt, h2, h3, h0, h4⟩ := compP_key hc hk p r hp
  rw [h4, numL_put (by omega) (by omega) (by omega)] at h1
  cases h1
theorem compP_end {N : Int} {l lk : List UInt8} {d : Int} {m : Nat} {qs : List Int} (hc : CompP N l d m m qs lk) : ∀ p r, PostAt N l p r → p = (d, qs) ∧ r = lk := by
  intro p r hp
  obtain ⟨h1, h2, h3, h4⟩ := hc p r hp
  rw [← h2, List.take_length] at h3
  rw [← h2, List.drop_length, gapsL, List.nil_append] at h4
  exact ⟨Prod.ext h1 h3.symm, h4.symm⟩
/-- All posts. -/
theorem comp_next {b : List UInt8} {n j : Nat} {ps : List Post} {l l' : List UInt8} {p0 : Post} (h : Comp b n j ps l) (hj : j < n) (hp : ∀ p r, PostAt (nextL 0 ps) l p r → p = p0 ∧ r = l') : Comp b n (j + 1) (ps ++ [p0]) l' := by
  intro PS hPS
  obtain ⟨h1, h2, h3⟩ := h PS hPS
  have hlt : j < PS.length := by omega
  have hd : PS.drop j = PS[j] :: PS.drop (j + 1) := List.drop_eq_getElem_cons hlt
  have hok := okL_drop ((isL_ok PS).1 hPS.1) j
  rw [← h2, hd, okL] at hok
  rw [hd, bodyL] at h3
  obtain ⟨h4, h5⟩ := hp _ _ ⟨hok.1, h3⟩
  refine ⟨h1, ?_, ?_⟩
  · rw [List.take_succ_eq_append_getElem hlt, ← h2, h4]
  · rw [← h5, nextL_append, ← h4]; rfl
theorem comp_no {b : List UInt8} {n j : Nat} {ps : List Post} {l : List UInt8} (h : Comp b n j ps l) (hj : j < n) (hp : ∀ p r, ¬ PostAt (nextL 0 ps) l p r) : NoRow b := comp_none h hj hp
theorem comp_all {b : List UInt8} {n : Nat} {ps : List Post} {l : List UInt8} (h : Comp b n n ps l) (hn : ¬ Dec b ps) : NoRow b := by
  intro PS hPS
  have := (comp_end h hPS).1
  rw [this] at hn
  exact hn hPS
theorem sumL_snoc (ps : List Post) (p : Post) : sumL (ps ++ [p]) = sumL ps + p.2.length := by
  induction ps with
  | nil => simp [sumL]
  | cons q ps ih => rw [List.cons_append, sumL, sumL, ih]; omega
end Go.Proofs.Ytdgjbhejokmeoaa.PM
