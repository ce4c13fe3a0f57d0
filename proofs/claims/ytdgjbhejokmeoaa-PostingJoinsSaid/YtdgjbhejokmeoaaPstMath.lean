/-
  Rows of posts as plain lists: which may be, their bytes. No program; no condition.
-/
import Derived.Test.YtdgjbhejokmeoaaVarMath
set_option linter.unusedVariables false
namespace Go.Proofs.Ytdgjbhejokmeoaa.PM
open Go.Proofs.Ytdgjbhejokmeoaa.VM

abbrev Post := Int × List Int

/-! ### which may be -/
/-- Each above the one ahead, below fin. -/
def riseF (fin : Int) : Int → List Int → Bool
  | _, [] => true
  | a, z :: zs => decide (a < z) && decide (z < fin) && riseF fin z zs
def riseL (fin : Int) (zs : List Int) : Bool := riseF fin (-1) zs
def prevL (a : Int) (zs : List Int) : Nat → Int
  | 0 => a
  | k + 1 => zs.getD k 0
theorem riseF_iff (fin : Int) : ∀ (zs : List Int) (a : Int), riseF fin a zs = true ↔ ∀ k, k < zs.length → prevL a zs k < zs.getD k 0 ∧ zs.getD k 0 < fin
  | [], a => by simp [riseF]
  | z :: zs, a => by
    rw [riseF, Bool.and_eq_true, Bool.and_eq_true, decide_eq_true_eq, decide_eq_true_eq, riseF_iff fin zs z]
    constructor
    · rintro ⟨⟨h1, h2⟩, h3⟩ k hk
      cases k with
      | zero => exact ⟨h1, h2⟩
      | succ k =>
        have := h3 k (by simpa using hk)
        cases k with
        | zero => exact this
        | succ k => exact this
    · intro h
      refine ⟨h 0 (by simp), fun k hk => ?_⟩
      have := h (k + 1) (by simpa using hk)
      cases k with
      | zero => exact this
      | succ k => exact this
theorem riseL_iff (fin : Int) (zs : List Int) : riseL fin zs = true ↔ ∀ k, k < zs.length → prevL (-1) zs k < zs.getD k 0 ∧ zs.getD k 0 < fin := riseF_iff fin zs (-1)
/-- As the reference asks. -/
theorem riseL_iff2 (fin : Int) (zs : List Int) : riseL fin zs = true ↔ ∀ k, k < zs.length → 0 ≤ zs.getD k 0 ∧ zs.getD k 0 < fin ∧ (0 < k → zs.getD (k - 1) 0 < zs.getD k 0) := by
  rw [riseL_iff]
  constructor
  · intro h
    have hp : ∀ k, k < zs.length → 0 ≤ zs.getD k 0 := by
      intro k
      induction k with
      | zero => intro hk; have := (h 0 hk).1; simp only [prevL] at this; omega
      | succ k ih => intro hk; have h1 := ih (by omega); have := (h (k + 1) hk).1; simp only [prevL] at this; omega
    intro k hk
    refine ⟨hp k hk, (h k hk).2, fun h0 => ?_⟩
    have := (h k hk).1
    cases k with
    | zero => omega
    | succ k => exact this
  · intro h k hk
    refine ⟨?_, (h k hk).2.1⟩
    cases k with
    | zero => have := (h 0 hk).1; simp only [prevL]; omega
    | succ k => exact (h (k + 1) hk).2.2 (by omega)
theorem riseF_len (fin : Int) : ∀ (zs : List Int) (a : Int), riseF fin a zs = true → zs ≠ [] → (zs.length : Int) ≤ fin - a - 1
  | [], _, _, h => absurd rfl h
  | [z], a, h, _ => by simp [riseF] at h; simp; omega
  | z :: y :: zs, a, h, _ => by
    rw [riseF, Bool.and_eq_true, Bool.and_eq_true, decide_eq_true_eq] at h
    have := riseF_len fin (y :: zs) z h.2 (by simp)
    rw [List.length_cons, Int.natCast_add]
    omega
def oddL (p : Post) : Bool := p.2.isEmpty || !riseL 1048576 p.2
def docsL (ps : List Post) : List Int := ps.map (·.1)
def isL (ps : List Post) : Bool := riseL 65536 (docsL ps) && !ps.any oddL
theorem isL_iff (ps : List Post) : isL ps = true ↔ riseL 65536 (docsL ps) = true ∧ ∀ p ∈ ps, p.2 ≠ [] ∧ riseL 1048576 p.2 = true := by
  unfold isL
  rw [Bool.and_eq_true, Bool.not_eq_true', List.any_eq_false]
  constructor
  · rintro ⟨h1, h2⟩
    refine ⟨h1, fun p hp => ?_⟩
    have := h2 p hp
    unfold oddL at this
    simp at this
    exact ⟨by simpa using this.1, this.2⟩
  · rintro ⟨h1, h2⟩
    refine ⟨h1, fun p hp => ?_⟩
    have := h2 p hp
    unfold oddL
    simp [this.1, this.2]
/-- A post behind a Doc. -/
def okP (n : Int) (p : Post) : Prop := n ≤ p.1 ∧ p.1 < 65536 ∧ p.2 ≠ [] ∧ riseL 1048576 p.2 = true
def okL : Int → List Post → Prop
  | _, [] => True
  | n, p :: ps => okP n p ∧ okL (p.1 + 1) ps
theorem okL_iff : ∀ (ps : List Post) (n : Int), okL n ps ↔ riseF 65536 (n - 1) (docsL ps) = true ∧ ∀ p ∈ ps, p.2 ≠ [] ∧ riseL 1048576 p.2 = true
  | [], n => by simp [okL, docsL, riseF]
  | p :: ps, n => by
    have e : docsL (p :: ps) = p.1 :: docsL ps := rfl
    have ih := okL_iff ps (p.1 + 1)
    rw [show p.1 + 1 - 1 = p.1 by omega] at ih
    rw [okL, ih, e, riseF, Bool.and_eq_true, Bool.and_eq_true, decide_eq_true_eq, decide_eq_true_eq, List.forall_mem_cons]
    unfold okP
    constructor
    · rintro ⟨⟨h1, h2, h3, h4⟩, h5, h6⟩; exact ⟨⟨⟨by omega, h2⟩, h5⟩, ⟨h3, h4⟩, h6⟩
    · rintro ⟨⟨⟨h1, h2⟩, h5⟩, ⟨h3, h4⟩, h6⟩; exact ⟨⟨by omega, h2, h3, h4⟩, h5, h6⟩
theorem isL_ok (ps : List Post) : isL ps = true ↔ okL 0 ps := by
  rw [isL_iff, okL_iff]; rfl
def nextL : Int → List Post → Int
  | n, [] => n
  | _, p :: ps => nextL (p.1 + 1) ps
theorem nextL_append : ∀ (a b : List Post) (n : Int), nextL n (a ++ b) = nextL (nextL n a) b
  | [], _, _ => rfl
  | p :: a, b, n => nextL_append a b (p.1 + 1)
theorem okL_append : ∀ (a b : List Post) (n : Int), okL n (a ++ b) ↔ okL n a ∧ okL (nextL n a) b
  | [], _, _ => by simp [okL, nextL]
  | p :: a, b, n => by rw [List.cons_append, okL, okL, nextL, okL_append a b (p.1 + 1), and_assoc]
theorem nextL_bound : ∀ (ps : List Post) (n : Int), okL n ps → n ≤ nextL n ps ∧ (n ≤ 65536 → nextL n ps ≤ 65536) ∧ (ps.length : Int) ≤ nextL n ps - n
  | [], n, _ => by simp [nextL]
  | p :: ps, n, h => by
    rw [okL] at h
    have h1 := h.1
    unfold okP at h1
    have := nextL_bound ps (p.1 + 1) h.2
    rw [nextL, List.length_cons, Int.natCast_add]
    omega
theorem okL_len (ps : List Post) (h : okL 0 ps) : ps.length ≤ 65536 := by
  have := nextL_bound ps 0 h
  omega
theorem okL_take {ps : List Post} {n : Int} (h : okL n ps) (k : Nat) : okL n (ps.take k) := by
  rw [← List.take_append_drop k ps, okL_append] at h; exact h.1
theorem okL_drop {ps : List Post} {n : Int} (h : okL n ps) (k : Nat) : okL (nextL n (ps.take k)) (ps.drop k) := by
  have h' := h
  rw [← List.take_append_drop k ps, okL_append] at h'; exact h'.2

/-! ### bytes -/
def gapsL : Int → List Int → List UInt8
  | _, [] => []
  | n, z :: zs => bytesL (z - n).toNat ++ gapsL (z + 1) zs
def postL (n : Int) (p : Post) : List UInt8 := bytesL (p.1 - n).toNat ++ (bytesL p.2.length ++ gapsL 0 p.2)
def bodyL : Int → List Post → List UInt8
  | _, [] => []
  | n, p :: ps => postL n p ++ bodyL (p.1 + 1) ps
theorem bodyL_append : ∀ (a b : List Post) (n : Int), bodyL n (a ++ b) = bodyL n a ++ bodyL (nextL n a) b
  | [], _, _ => rfl
  | p :: a, b, n => by rw [List.cons_append, bodyL, bodyL, nextL, bodyL_append a b (p.1 + 1), List.append_assoc]
def lastP : Int → List Int → Int
  | n, [] => n
  | _, z :: zs => lastP (z + 1) zs
theorem lastP_snoc : ∀ (zs : List Int) (n z : Int), lastP n (zs ++ [z]) = z + 1
  | [], n, z => rfl
  | y :: zs, n, z => lastP_snoc zs (y + 1) z
theorem gapsL_snoc : ∀ (zs : List Int) (n z : Int), gapsL n (zs ++ [z]) = gapsL n zs ++ bytesL (z - lastP n zs).toNat
  | [], n, z => by simp [gapsL, lastP]
  | y :: zs, n, z => by
    rw [List.cons_append, gapsL, gapsL, gapsL_snoc zs (y + 1) z, List.append_assoc]
    rfl
theorem riseF_snoc (fin : Int) : ∀ (zs : List Int) (n z : Int), riseF fin (n - 1) (zs ++ [z]) = (riseF fin (n - 1) zs && (decide (lastP n zs ≤ z) && decide (z < fin)))
  | [], n, z => by
    show (decide (n - 1 < z) && decide (z < fin) && true) = (true && (decide (n ≤ z) && decide (z < fin)))
    have e : (n - 1 < z) = (n ≤ z) := propext ⟨fun h => by omega, fun h => by omega⟩
    simp only [e, Bool.and_true, Bool.true_and]
  | y :: zs, n, z => by
    have := riseF_snoc fin zs (y + 1) z
    rw [show y + 1 - 1 = y by omega] at this
    rw [List.cons_append, riseF, riseF, this, lastP, Bool.and_assoc, Bool.and_assoc, Bool.and_assoc]
theorem lastP_bound (fin : Int) : ∀ (zs : List Int) (n : Int), n ≤ fin → riseF fin (n - 1) zs = true → n ≤ lastP n zs ∧ lastP n zs ≤ fin
  | [], n, h, _ => ⟨Int.le_refl _, h⟩
  | z :: zs, n, h, hr => by
    rw [riseF, Bool.and_eq_true, Bool.and_eq_true, decide_eq_true_eq, decide_eq_true_eq] at hr
    have := lastP_bound fin zs (z + 1) (by omega) (by rw [show z + 1 - 1 = z by omega]; exact hr.2)
    rw [lastP]
    omega
/-- The two numbers of block i. -/
def endL (ps : List Post) (i : Nat) : Nat := (bodyL 0 (ps.take (32 * i))).length
def h1L (ps : List Post) (i : Nat) : Nat := (nextL 0 (ps.take (32 * (i + 1))) - 1).toNat
def h2L (ps : List Post) (i : Nat) : Nat := endL ps (i + 1) - endL ps i
def headL (ps : List Post) (i : Nat) : List UInt8 := bytesL (h1L ps i) ++ bytesL (h2L ps i)
def headsR (ps : List Post) : Nat → Nat → List UInt8
  | _, 0 => []
  | i, c + 1 => headL ps i ++ headsR ps (i + 1) c
theorem headsR_snoc (ps : List Post) : ∀ (c i : Nat), headsR ps i (c + 1) = headsR ps i c ++ headL ps (i + c)
  | 0, i => by simp [headsR]
  | c + 1, i => by rw [headsR, headsR_snoc ps c (i + 1), headsR, List.append_assoc, show i + 1 + c = i + (c + 1) by omega]
def cnt (n : Nat) : Nat := (n + 31) / 32
def encL (ps : List Post) : List UInt8 := bytesL ps.length ++ headsR ps 0 (cnt ps.length) ++ bodyL 0 ps
/-- These bytes are that row's. -/
def Dec (b : List UInt8) (ps : List Post) : Prop := isL ps = true ∧ encL ps = b

/-! ### sizes -/
theorem gapsL_len : ∀ (zs : List Int) (n : Int), zs.length ≤ (gapsL n zs).length ∧ (gapsL n zs).length ≤ 10 * zs.length
  | [], _ => by simp [gapsL]
  | z :: zs, n => by
    have := gapsL_len zs (z + 1)
    have h := bytesL_length (z - n).toNat
    rw [gapsL, List.length_append, List.length_cons]
    omega
theorem postL_len (n : Int) (p : Post) : 2 + p.2.length ≤ (postL n p).length ∧ (postL n p).length ≤ 20 + 10 * p.2.length := by
  have h1 := bytesL_length (p.1 - n).toNat
  have h2 := bytesL_length p.2.length
  have h3 := gapsL_len p.2 0
  unfold postL
  rw [List.length_append, List.length_append]
  omega
/-- How many places in all. -/
def sumL : List Post → Nat
  | [] => 0
  | p :: ps => p.2.length + sumL ps
theorem bodyL_len : ∀ (ps : List Post) (n : Int), (bodyL n ps).length ≤ 20 * ps.length + 10 * sumL ps
  | [], _ => by simp [bodyL]
  | p :: ps, n => by
    have := bodyL_len ps (p.1 + 1)
    have h := postL_len n p
    rw [bodyL, sumL, List.length_append, List.length_cons]
    omega
theorem bodyL_least : ∀ (ps : List Post) (n : Int), okL n ps → 3 * ps.length ≤ (bodyL n ps).length
  | [], _, _ => by simp [bodyL]
  | p :: ps, n, h => by
    rw [okL] at h
    have := bodyL_least ps (p.1 + 1) h.2
    have h3 := postL_len n p
    have h4 := List.length_pos_iff.2 h.1.2.2.1
    rw [bodyL, List.length_append, List.length_cons]
    omega
theorem sumL_take : ∀ (ps : List Post) (k : Nat), sumL (ps.take k) ≤ sumL ps
  | [], k => by simp [sumL]
  | p :: ps, 0 => by simp [sumL]
  | p :: ps, k + 1 => by
    have := sumL_take ps k
    rw [List.take_succ_cons, sumL, sumL]; omega
theorem headsR_len (ps : List Post) : ∀ (c i : Nat), (headsR ps i c).length ≤ 20 * c
  | 0, i => by simp [headsR]
  | c + 1, i => by
    have := headsR_len ps c (i + 1)
    have h1 := bytesL_length (h1L ps i)
    have h2 := bytesL_length (h2L ps i)
    rw [headsR, headL, List.length_append, List.length_append]
    omega
theorem endL_le (ps : List Post) (i : Nat) : endL ps i ≤ 20 * ps.length + 10 * sumL ps := by
  have := bodyL_len (ps.take (32 * i)) 0
  have h := sumL_take ps (32 * i)
  have h2 : (ps.take (32 * i)).length ≤ ps.length := List.length_take_le' _ _
  unfold endL
  omega

/-! ### numbers that stand first -/
def getS (l : List UInt8) : Option (Nat × List UInt8) := if (getL l).2.2 = 0 then some ((getL l).1, l.drop (getL l).2.1) else none
theorem getS_put {n : Nat} (hn : n < 18446744073709551616) (r : List UInt8) : getS (bytesL n ++ r) = some (n, r) := by
  unfold getS
  rw [getL_put n hn r]
  simp
theorem getS_back {l r : List UInt8} {n : Nat} (h : getS l = some (n, r)) : l = bytesL n ++ r ∧ n < 18446744073709551616 ∧ r.length < l.length := by
  unfold getS at h
  split at h
  · rename_i h0
    simp only [Option.some.injEq, Prod.mk.injEq] at h
    obtain ⟨h1, h2⟩ := h
    have hb := getL_back (l := l) (n := (getL l).1) (k := (getL l).2.1) (by rw [← h0])
    have hl := getL_bounds l
    have h3 := hl.2.2.2 h0
    subst h1 h2
    exact ⟨hb.symm, hl.1, by rw [List.length_drop]; omega⟩
  · cases h
theorem getS_nil : getS [] = none := by
  unfold getS
  rw [show getL [] = (0, 0, 6) from getF_nil 0 0]
  simp
/-- The number that stands first, if it lies within bounds. -/
def numL (lo hi : Int) (l : List UInt8) : Option (Nat × List UInt8) := match getS l with
  | some (n, r) => if lo ≤ (n : Int) ∧ (n : Int) ≤ hi then some (n, r) else none
  | none => none
theorem numL_put {lo hi : Int} {n : Nat} (hn : n < 18446744073709551616) (h1 : lo ≤ (n : Int)) (h2 : (n : Int) ≤ hi) (r : List UInt8) : numL lo hi (bytesL n ++ r) = some (n, r) := by
  unfold numL
  rw [getS_put hn]
  simp [h1, h2]
theorem numL_back {lo hi : Int} {l r : List UInt8} {n : Nat} (h : numL lo hi l = some (n, r)) : l = bytesL n ++ r ∧ n < 18446744073709551616 ∧ r.length < l.length ∧ lo ≤ (n : Int) ∧ (n : Int) ≤ hi := by
  unfold numL at h
  split at h
  · rename_i m s hs
    split at h
    · rename_i hb
      simp only [Option.some.injEq, Prod.mk.injEq] at h
      obtain ⟨rfl, rfl⟩ := h
      have := getS_back hs
      exact ⟨this.1, this.2.1, this.2.2, hb.1, hb.2⟩
    · cases h
  · cases h
theorem numL_nil (lo hi : Int) : numL lo hi [] = none := by unfold numL; rw [getS_nil]
theorem bytes_det {a b : Nat} {l m : List UInt8} (ha : a < 18446744073709551616) (hb : b < 18446744073709551616) (h : bytesL a ++ l = bytesL b ++ m) : a = b ∧ l = m := by
  have h1 := getS_put ha l
  rw [h, getS_put hb] at h1
  simp only [Option.some.injEq, Prod.mk.injEq] at h1
  exact ⟨h1.1.symm, h1.2.symm⟩
theorem gaps_det (fin : Int) (hf : fin ≤ 1048576) : ∀ (xs ys : List Int) (n : Int) (l m : List UInt8), 0 ≤ n → xs.length = ys.length → riseF fin (n - 1) xs = true → riseF fin (n - 1) ys = true → gapsL n xs ++ l = gapsL n ys ++ m → xs = ys ∧ l = m
  | [], [], n, l, m, _, _, _, _, h => ⟨rfl, h⟩
  | [], _ :: _, _, _, _, _, h, _, _, _ => by simp at h
  | _ :: _, [], _, _, _, _, h, _, _, _ => by simp at h
  | x :: xs, y :: ys, n, l, m, hn, hl, hx, hy, h => by
    rw [riseF, Bool.and_eq_true, Bool.and_eq_true, decide_eq_true_eq, decide_eq_true_eq] at hx hy
    rw [gapsL, gapsL, List.append_assoc, List.append_assoc] at h
    obtain ⟨h1, h2⟩ := bytes_det (by omega) (by omega) h
    have e : x = y := by omega
    subst e
    obtain ⟨h3, h4⟩ := gaps_det fin hf xs ys (x + 1) l m (by omega) (by simpa using hl) (by rw [show x + 1 - 1 = x by omega]; exact hx.2) (by rw [show x + 1 - 1 = x by omega]; exact hy.2) h2
    exact ⟨by rw [h3], h4⟩
theorem riseL_len {zs : List Int} (h : riseL 1048576 zs = true) : zs.length ≤ 1048576 := by
  by_cases h0 : zs = []
  · subst h0; simp
  · have := riseF_len 1048576 zs (-1) h h0
    omega
/-- A post that stands first. -/
def PostAt (n : Int) (l : List UInt8) (p : Post) (r : List UInt8) : Prop := okP n p ∧ l = postL n p ++ r
theorem postAt_det {n : Int} {l : List UInt8} {p q : Post} {r s : List UInt8} (hn : 0 ≤ n) (h : PostAt n l p r) (k : PostAt n l q s) : p = q ∧ r = s := by
  obtain ⟨hp, h⟩ := h
  obtain ⟨hq, k⟩ := k
  rw [h] at k
  unfold postL at k
  simp only [List.append_assoc] at k
  unfold okP at hp hq
  have lp := riseL_len hp.2.2.2
  have lq := riseL_len hq.2.2.2
  obtain ⟨h1, h2⟩ := bytes_det (by omega) (by omega) k
  obtain ⟨h3, h4⟩ := bytes_det (by omega) (by omega) h2
  obtain ⟨h5, h6⟩ := gaps_det 1048576 (by omega) p.2 q.2 0 r s (by omega) h3 hp.2.2.2 hq.2.2.2 h4
  exact ⟨Prod.ext (by omega) h5, h6⟩

/-! ### each row has its own bytes -/
/-- What of a row with these bytes has been taken behind j posts: it, and what is left. -/
def Comp (b : List UInt8) (n j : Nat) (ps : List Post) (l : List UInt8) : Prop := ∀ PS, Dec b PS → PS.length = n ∧ ps = PS.take j ∧ l = bodyL (nextL 0 ps) (PS.drop j)
theorem nextL_nonneg {ps : List Post} (h : okL 0 ps) : 0 ≤ nextL 0 ps := (nextL_bound ps 0 h).1
theorem comp_step {b : List UInt8} {n j : Nat} {ps : List Post} {l r : List UInt8} {p : Post} (h : Comp b n j ps l) (hj : j < n) (ho : okL 0 ps) (hp : PostAt (nextL 0 ps) l p r) : Comp b n (j + 1) (ps ++ [p]) r := by
  intro PS hPS
  obtain ⟨h1, h2, h3⟩ := h PS hPS
  have hlt : j < PS.length := by omega
  have hd : PS.drop j = PS[j] :: PS.drop (j + 1) := List.drop_eq_getElem_cons hlt
  have hok := okL_drop ((isL_ok PS).1 hPS.1) j
  rw [← h2, hd, okL] at hok
  rw [hd, bodyL] at h3
  obtain ⟨h4, h5⟩ := postAt_det (nextL_nonneg ho) hp ⟨hok.1, h3⟩
  refine ⟨h1, ?_, ?_⟩
  · rw [List.take_succ_eq_append_getElem hlt, ← h2, h4]
  · rw [h5, nextL_append, h4]; rfl
/-- There is no such row. -/
def NoRow (b : List UInt8) : Prop := ∀ PS, ¬ Dec b PS
theorem comp_none {b : List UInt8} {n j : Nat} {ps : List Post} {l : List UInt8} (h : Comp b n j ps l) (hj : j < n) (hn : ∀ p r, ¬ PostAt (nextL 0 ps) l p r) : NoRow b := by
  intro PS hPS
  obtain ⟨h1, h2, h3⟩ := h PS hPS
  have hlt : j < PS.length := by omega
  have hd : PS.drop j = PS[j] :: PS.drop (j + 1) := List.drop_eq_getElem_cons hlt
  have hok := okL_drop ((isL_ok PS).1 hPS.1) j
  rw [← h2, hd, okL] at hok
  rw [hd, bodyL] at h3
  exact hn _ _ ⟨hok.1, h3⟩
theorem comp_end {b : List UInt8} {n : Nat} {ps PS : List Post} {l : List UInt8} (h : Comp b n n ps l) (hPS : Dec b PS) : ps = PS ∧ l = [] := by
  obtain ⟨h1, h2, h3⟩ := h PS hPS
  rw [← h1, List.take_length] at h2
  rw [← h1, List.drop_length, bodyL] at h3
  exact ⟨h2, h3⟩
/-- The same of heads: behind the row's size and i blocks' heads. -/
def CompH (b : List UInt8) (n i : Nat) (hs : List (Nat × Nat)) (l : List UInt8) : Prop := ∀ PS, Dec b PS → PS.length = n ∧ hs = (List.range i).map (fun k => (h1L PS k, h2L PS k)) ∧ l = headsR PS i (cnt n - i) ++ bodyL 0 PS
/-- Bounds of a row with these bytes. -/
theorem dec_len {b : List UInt8} {PS : List Post} (h : Dec b PS) : 3 * PS.length + 1 ≤ b.length ∧ PS.length ≤ 65536 := by
  have hok := (isL_ok PS).1 h.1
  have h1 := bodyL_least PS 0 hok
  have h2 := okL_len PS hok
  have h3 := bytesL_length PS.length
  rw [← h.2]
  unfold encL
  rw [List.length_append, List.length_append]
  omega
theorem dec_body {b : List UInt8} {PS : List Post} (h : Dec b PS) : (bodyL 0 PS).length ≤ b.length := by
  rw [← h.2]
  unfold encL
  rw [List.length_append]
  omega
theorem endL_mono {PS : List Post} (i : Nat) : endL PS i ≤ (bodyL 0 PS).length := by
  unfold endL
  conv => rhs; rw [← List.take_append_drop (32 * i) PS, bodyL_append, List.length_append]
  omega
theorem h_small {b : List UInt8} {PS : List Post} (h : Dec b PS) (i : Nat) : h1L PS i ≤ 65535 ∧ h2L PS i ≤ b.length := by
  have hok := (isL_ok PS).1 h.1
  have h1 := nextL_bound _ 0 (okL_take hok (32 * (i + 1)))
  have h2 := dec_body h
  have h3 := endL_mono (PS := PS) (i + 1)
  unfold h1L h2L
  omega
theorem compH_start {b l : List UInt8} {n : Nat} {m : Int} (hb : b.length < 4611686018427387904) (h : numL 0 m b = some (n, l)) : CompH b n 0 [] l := by
  intro PS hPS
  have hl := dec_len hPS
  have h2 := numL_back h
  have h3 := hPS.2
  unfold encL at h3
  rw [h2.1, List.append_assoc] at h3
  obtain ⟨h4, h5⟩ := bytes_det (by omega) h2.2.1 h3
  exact ⟨h4, rfl, by rw [← h5, h4, Nat.sub_zero]⟩
theorem compH_none {b : List UInt8} {m : Int} (hm : m = min 65536 ((b.length / 3 : Nat) : Int)) (h : numL 0 m b = none) : NoRow b := by
  intro PS hPS
  have hl := dec_len hPS
  have h3 := hPS.2
  unfold encL at h3
  rw [← h3, List.append_assoc, numL_put (by omega) (by omega) (by omega)] at h
  cases h
theorem headsR_cons {PS : List Post} {n i : Nat} (hi : i < cnt n) : headsR PS i (cnt n - i) = headL PS i ++ headsR PS (i + 1) (cnt n - (i + 1)) := by
  rw [show cnt n - i = (cnt n - (i + 1)) + 1 by omega, headsR]
theorem compH_step {b l l1 l2 : List UInt8} {n i : Nat} {hs : List (Nat × Nat)} {x y : Nat} {m : Int} (hb : b.length < 4611686018427387904) (h : CompH b n i hs l) (hi : i < cnt n) (h1 : numL 0 m l = some (x, l1)) (h2 : numL 0 m l1 = some (y, l2)) : CompH b n (i + 1) (hs ++ [(x, y)]) l2 := by
  intro PS hPS
  obtain ⟨h3, h4, h5⟩ := h PS hPS
  have hsm := h_small hPS i
  rw [headsR_cons hi, headL, List.append_assoc, List.append_assoc] at h5
  have k1 := numL_back h1
  have k2 := numL_back h2
  rw [k1.1, k2.1] at h5
  obtain ⟨e1, h5⟩ := bytes_det k1.2.1 (by omega) h5
  obtain ⟨e2, h5⟩ := bytes_det k2.2.1 (by omega) h5
  refine ⟨h3, ?_, h5⟩
  rw [List.range_succ, List.map_append, ← h4, e1, e2]
  rfl
theorem compH_none1 {b l : List UInt8} {n i : Nat} {hs : List (Nat × Nat)} (hb : b.length < 4611686018427387904) (h : CompH b n i hs l) (hi : i < cnt n) (h1 : numL 0 9223372036854775807 l = none) : NoRow b := by
  intro PS hPS
  obtain ⟨h3, h4, h5⟩ := h PS hPS
  have hsm := h_small hPS i
  rw [h5, headsR_cons hi, headL, List.append_assoc, List.append_assoc, numL_put (by omega) (by omega) (by omega)] at h1
  cases h1
theorem compH_none2 {b l l1 : List UInt8} {n i : Nat} {hs : List (Nat × Nat)} {x : Nat} (hb : b.length < 4611686018427387904) (h : CompH b n i hs l) (hi : i < cnt n) (h1 : numL 0 9223372036854775807 l = some (x, l1)) (h2 : numL 0 9223372036854775807 l1 = none) : NoRow b := by
  intro PS hPS
  obtain ⟨h3, h4, h5⟩ := h PS hPS
  have hsm := h_small hPS i
  rw [h5, headsR_cons hi, headL, List.append_assoc, List.append_assoc, numL_put (by omega) (by omega) (by omega)] at h1
  simp only [Option.some.injEq, Prod.mk.injEq] at h1
  rw [← h1.2, numL_put (by omega) (by omega) (by omega)] at h2
  cases h2
theorem comp_start {b l : List UInt8} {n : Nat} {hs : List (Nat × Nat)} (h : CompH b n (cnt n) hs l) : Comp b n 0 [] l := by
  intro PS hPS
  obtain ⟨h3, h4, h5⟩ := h PS hPS
  rw [Nat.sub_self, headsR, List.nil_append] at h5
  exact ⟨h3, rfl, h5⟩
end Go.Proofs.Ytdgjbhejokmeoaa.PM
