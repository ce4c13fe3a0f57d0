/-
  The cyclic sum of 32 bits, as plain numbers and lists: linear, and no burst of four bytes is lost. No program; no condition.
-/
set_option linter.unusedVariables false
namespace Go.Proofs.Ytfnohcmoaooghaa.CM

/-- One of the eight steps. -/
def step (s : Nat) : Nat := if s % 2 = 1 then s / 2 ^^^ 3988292384 else s / 2
/-- Steps. -/
def steps : Nat → Nat → Nat
  | 0, s => s
  | k + 1, s => steps k (step s)
/-- A sum goes on by a byte. -/
def onB (s b : Nat) : Nat := steps 8 (s ^^^ b)
/-- .. by bytes. -/
def run (s : Nat) (l : List UInt8) : Nat := l.foldl (fun s b => onB s b.toNat) s
def notB (s : Nat) : Nat := 4294967295 - s
/-- The sum of bytes, and of more behind them. -/
def nextL (s : Nat) (l : List UInt8) : Nat := notB (run (notB s) l)
def sumL (l : List UInt8) : Nat := nextL 0 l

theorem xor_half (a b : Nat) : (a ^^^ b) / 2 = a / 2 ^^^ b / 2 := by
  have h := Nat.shiftRight_xor_distrib (a := a) (b := b) (i := 1)
  rw [Nat.shiftRight_eq_div_pow, Nat.shiftRight_eq_div_pow, Nat.shiftRight_eq_div_pow] at h
  exact h
theorem xor_odd (a b : Nat) : (a ^^^ b) % 2 = (a % 2 + b % 2) % 2 := by
  have h := Nat.xor_mod_two_pow (a := a) (b := b) (n := 1)
  have ha : a % 2 = 0 ∨ a % 2 = 1 := by omega
  have hb : b % 2 = 0 ∨ b % 2 = 1 := by omega
  rw [show (2 : Nat) ^ 1 = 2 from rfl] at h
  rw [h]
  rcases ha with ha | ha <;> rcases hb with hb | hb <;> rw [ha, hb] <;> rfl
theorem xor_zero {a b : Nat} (h : a ^^^ b = 0) : a = b := by
  have h2 := congrArg (fun x => x ^^^ b) h
  simp only [Nat.xor_assoc, Nat.xor_self, Nat.xor_zero, Nat.zero_xor] at h2
  exact h2
theorem xor4 (a b p : Nat) : (a ^^^ p) ^^^ (b ^^^ p) = a ^^^ b := by
  rw [Nat.xor_assoc, Nat.xor_comm b p, ← Nat.xor_assoc p, Nat.xor_self, Nat.zero_xor]
theorem step_xor (a b : Nat) : step (a ^^^ b) = step a ^^^ step b := by
  unfold step
  rw [xor_odd, xor_half]
  by_cases ha : a % 2 = 1 <;> by_cases hb : b % 2 = 1
  · rw [if_pos ha, if_pos hb, if_neg (by omega), xor4]
  · rw [if_pos ha, if_neg hb, if_pos (by omega), Nat.xor_assoc, Nat.xor_assoc, Nat.xor_comm 3988292384]
  · rw [if_neg ha, if_pos hb, if_pos (by omega), Nat.xor_assoc]
  · rw [if_neg ha, if_neg hb, if_neg (by omega)]
theorem step_lt {a : Nat} (h : a < 4294967296) : step a < 4294967296 := by
  unfold step
  split
  · exact Nat.xor_lt_two_pow (n := 32) (by omega) (by omega)
  · omega
theorem step_zero {a : Nat} (h : a < 4294967296) (h0 : step a = 0) : a = 0 := by
  unfold step at h0
  split at h0
  · have := xor_zero h0
    omega
  · omega
theorem step_even (x : Nat) : step (2 * x) = x := by
  unfold step
  rw [if_neg (by omega)]
  omega

theorem steps_xor : ∀ (k a b : Nat), steps k (a ^^^ b) = steps k a ^^^ steps k b
  | 0, _, _ => rfl
  | k + 1, a, b => by rw [steps, steps, steps, step_xor, steps_xor k]
theorem steps_lt : ∀ (k : Nat) {a : Nat}, a < 4294967296 → steps k a < 4294967296
  | 0, _, h => h
  | k + 1, _, h => steps_lt k (step_lt h)
theorem steps_zero : ∀ (k : Nat) {a : Nat}, a < 4294967296 → steps k a = 0 → a = 0
  | 0, _, _, h => h
  | k + 1, _, h, h0 => step_zero h (steps_zero k (step_lt h) h0)
theorem steps_none : ∀ k, steps k 0 = 0
  | 0 => rfl
  | k + 1 => by rw [steps, show step 0 = 0 from by decide, steps_none k]
theorem steps_byte (x : Nat) : steps 8 (256 * x) = x := by
  have e : 256 * x = 2 * (2 * (2 * (2 * (2 * (2 * (2 * (2 * x))))))) := by omega
  rw [e]
  simp only [steps, step_even]
theorem steps_inj {a b : Nat} (ha : a < 4294967296) (hb : b < 4294967296) (h : steps 8 a = steps 8 b) : a = b := by
  have hx : steps 8 (a ^^^ b) = 0 := by rw [steps_xor, h, Nat.xor_self]
  have := steps_zero 8 (Nat.xor_lt_two_pow (n := 32) ha hb) hx
  exact xor_zero this
/-- What the eight steps make a number of fewer bits out of. -/
theorem steps_of {a v : Nat} (ha : a < 4294967296) (hv : v < 16777216) (h : steps 8 a = v) : a = 256 * v :=
  steps_inj ha (by omega) (by rw [h, steps_byte])

theorem onB_lt {s b : Nat} (hs : s < 4294967296) (hb : b < 256) : onB s b < 4294967296 := steps_lt 8 (Nat.xor_lt_two_pow (n := 32) hs (by omega))
theorem onB_xor (s t b c : Nat) : onB (s ^^^ t) (b ^^^ c) = onB s b ^^^ onB t c := by
  unfold onB
  rw [← steps_xor]
  congr 1
  rw [Nat.xor_assoc, Nat.xor_assoc, ← Nat.xor_assoc t b c, Nat.xor_comm t b, Nat.xor_assoc b t c]
theorem run_nil (s : Nat) : run s [] = s := rfl
theorem run_cons (s : Nat) (b : UInt8) (l : List UInt8) : run s (b :: l) = run (onB s b.toNat) l := rfl
theorem run_append (s : Nat) (l m : List UInt8) : run s (l ++ m) = run (run s l) m := by unfold run; rw [List.foldl_append]
theorem run_lt : ∀ (l : List UInt8) {s : Nat}, s < 4294967296 → run s l < 4294967296
  | [], _, h => h
  | b :: l, _, h => by rw [run_cons]; exact run_lt l (onB_lt h b.toNat_lt)
/-- Bytes told apart from different sums stay apart. -/
theorem run_inj : ∀ (l : List UInt8) {s t : Nat}, s < 4294967296 → t < 4294967296 → run s l = run t l → s = t
  | [], _, _, _, _, h => h
  | b :: l, s, t, hs, ht, h => by
    rw [run_cons, run_cons] at h
    have h1 := run_inj l (onB_lt hs b.toNat_lt) (onB_lt ht b.toNat_lt) h
    unfold onB at h1
    have h2 := steps_inj (Nat.xor_lt_two_pow (n := 32) hs (by have := b.toNat_lt; omega)) (Nat.xor_lt_two_pow (n := 32) ht (by have := b.toNat_lt; omega)) h1
    have h3 := congrArg (fun x => x ^^^ b.toNat) h2
    simp only [Nat.xor_assoc, Nat.xor_self, Nat.xor_zero] at h3
    exact h3
theorem notB_lt (s : Nat) : notB s < 4294967296 := by unfold notB; omega
theorem notB_notB {s : Nat} (h : s < 4294967296) : notB (notB s) = s := by unfold notB; omega
theorem notB_inj {s t : Nat} (hs : s < 4294967296) (ht : t < 4294967296) (h : notB s = notB t) : s = t := by unfold notB at h; omega
theorem nextL_lt (s : Nat) (l : List UInt8) : nextL s l < 4294967296 := notB_lt _
theorem nextL_nil {s : Nat} (h : s < 4294967296) : nextL s [] = s := notB_notB h
/-- In whatever pieces. -/
theorem nextL_append (s : Nat) (l m : List UInt8) : nextL s (l ++ m) = nextL (nextL s l) m := by
  unfold nextL
  rw [run_append, notB_notB (run_lt l (notB_lt s))]

/-! ### bursts -/
/-- A byte that is none of the four: nothing is turned. -/
theorem xor_eq_left {a b : Nat} (h : a ^^^ b = a) : b = 0 := by
  have h2 := congrArg (fun x => a ^^^ x) h
  simp only [← Nat.xor_assoc, Nat.xor_self, Nat.zero_xor] at h2
  exact h2
theorem small_xor {a b : Nat} (n : Nat) (ha : a < 2 ^ n) (hb : b < 2 ^ n) : a ^^^ b < 2 ^ n := Nat.xor_lt_two_pow ha hb
theorem xor_move {a b c : Nat} (h : a ^^^ b = c) : a = c ^^^ b := by
  rw [← h, Nat.xor_assoc, Nat.xor_self, Nat.xor_zero]
/-- The sum of four bytes, from 0, is 0 only where all of them are. -/
theorem burst4 {w0 w1 w2 w3 : Nat} (h0 : w0 < 256) (h1 : w1 < 256) (h2 : w2 < 256) (h3 : w3 < 256)
    (h : onB (onB (onB (onB 0 w0) w1) w2) w3 = 0) : w0 = 0 ∧ w1 = 0 ∧ w2 = 0 ∧ w3 = 0 := by
  have l0 : onB 0 w0 < 4294967296 := onB_lt (by omega) h0
  have l1 := onB_lt l0 h1
  have l2 := onB_lt l1 h2
  have e3 : onB (onB (onB 0 w0) w1) w2 = w3 := by
    have := steps_zero 8 (Nat.xor_lt_two_pow (n := 32) l2 (by omega)) h
    exact xor_zero this
  have e2 : onB (onB 0 w0) w1 = 256 * w3 ^^^ w2 := xor_move (steps_of (Nat.xor_lt_two_pow (n := 32) l1 (by omega)) (by omega) e3)
  have b2 : 256 * w3 ^^^ w2 < 2 ^ 16 := small_xor 16 (by omega) (by omega)
  obtain ⟨v, hv⟩ : ∃ v, 256 * w3 ^^^ w2 = v := ⟨_, rfl⟩
  rw [hv] at e2 b2
  have e1 : onB 0 w0 = 256 * v ^^^ w1 := xor_move (steps_of (Nat.xor_lt_two_pow (n := 32) l0 (by omega)) (by omega) e2)
  have b1 : 256 * v ^^^ w1 < 2 ^ 24 := small_xor 24 (by omega) (by omega)
  obtain ⟨u, hu⟩ : ∃ u, 256 * v ^^^ w1 = u := ⟨_, rfl⟩
  rw [hu] at e1 b1
  have e0 : 0 ^^^ w0 = 256 * u := steps_of (Nat.xor_lt_two_pow (n := 32) (by omega) (by omega)) (by omega) e1
  rw [Nat.zero_xor] at e0
  have hu0 : u = 0 := by omega
  have hw0 : w0 = 0 := by omega
  rw [hu0] at hu
  have e5 := xor_zero hu
  have hv0 : v = 0 := by omega
  have hw1 : w1 = 0 := by omega
  rw [hv0] at hv
  have e6 := xor_zero hv
  exact ⟨hw0, hw1, by omega, by omega⟩

/-- Byte by byte, turned by others. -/
def turn : List UInt8 → List UInt8 → List UInt8
  | [], _ => []
  | b :: l, [] => b :: l
  | b :: l, c :: m => (b ^^^ c) :: turn l m
theorem turn_nil (l : List UInt8) : turn l [] = l := by cases l <;> rfl
theorem toNat_xor (b c : UInt8) : (b ^^^ c).toNat = b.toNat ^^^ c.toNat := by simp
theorem run_turn : ∀ (l m : List UInt8) (s t : Nat), m.length ≤ l.length → run (s ^^^ t) (turn l m) = run s l ^^^ run t (m ++ List.replicate (l.length - m.length) 0)
  | [], [], s, t, _ => by simp [turn, run_nil]
  | [], c :: m, s, t, h => by simp at h
  | b :: l, [], s, t, _ => by
    have ih := run_turn l [] (onB s b.toNat) (onB t 0) (by simp)
    rw [turn_nil] at ih ⊢
    rw [run_cons, run_cons]
    have e : onB (s ^^^ t) b.toNat = onB s b.toNat ^^^ onB t 0 := by
      have := onB_xor s t b.toNat 0
      rw [Nat.xor_zero] at this
      exact this
    rw [e, ih]
    simp [List.replicate_succ, run_cons]
  | b :: l, c :: m, s, t, h => by
    have ih := run_turn l m (onB s b.toNat) (onB t c.toNat) (by simpa using h)
    rw [turn, run_cons, run_cons, toNat_xor, onB_xor, ih]
    simp [run_cons]
theorem run_zeros : ∀ (k : Nat), run 0 (List.replicate k (0 : UInt8)) = 0
  | 0 => rfl
  | k + 1 => by
    rw [List.replicate_succ, run_cons]
    show run (steps 8 (0 ^^^ 0)) _ = 0
    rw [Nat.xor_self, steps_none, run_zeros k]
theorem onB_zero : onB 0 0 = 0 := by unfold onB; rw [Nat.xor_self, steps_none]
theorem toNat_zero {c : UInt8} (h : c.toNat = 0) : c = 0 := by rw [← UInt8.toNat_inj]; exact h
theorem burst1 (a : UInt8) (h : run 0 [a] = 0) : a = 0 := by
  have := burst4 (w0 := 0) (w1 := 0) (w2 := 0) (w3 := a.toNat) (by omega) (by omega) (by omega) a.toNat_lt (by rw [onB_zero, onB_zero, onB_zero]; exact h)
  exact toNat_zero this.2.2.2
theorem burst2 (a b : UInt8) (h : run 0 [a, b] = 0) : a = 0 ∧ b = 0 := by
  have := burst4 (w0 := 0) (w1 := 0) (w2 := a.toNat) (w3 := b.toNat) (by omega) (by omega) a.toNat_lt b.toNat_lt (by rw [onB_zero, onB_zero]; exact h)
  exact ⟨toNat_zero this.2.2.1, toNat_zero this.2.2.2⟩
theorem burst3 (a b c : UInt8) (h : run 0 [a, b, c] = 0) : a = 0 ∧ b = 0 ∧ c = 0 := by
  have := burst4 (w0 := 0) (w1 := a.toNat) (w2 := b.toNat) (w3 := c.toNat) (by omega) a.toNat_lt b.toNat_lt c.toNat_lt (by rw [onB_zero]; exact h)
  exact ⟨toNat_zero this.2.1, toNat_zero this.2.2.1, toNat_zero this.2.2.2⟩
theorem burst_none (w : List UInt8) (hw : w.length ≤ 4) (h : run 0 w = 0) : ∀ c ∈ w, c = 0 := by
  match w, hw, h with
  | [], _, _ => intro c hc; cases hc
  | [a], _, h => intro c hc; have := burst1 a h; simp at hc; rw [hc, this]
  | [a, b], _, h =>
    intro x hx
    have := burst2 a b h
    simp at hx
    rcases hx with rfl | rfl
    · exact this.1
    · exact this.2
  | [a, b, c], _, h =>
    intro x hx
    have := burst3 a b c h
    simp at hx
    rcases hx with rfl | rfl | rfl
    · exact this.1
    · exact this.2.1
    · exact this.2.2
  | [a, b, c, d], _, h =>
    intro x hx
    have := burst4 a.toNat_lt b.toNat_lt c.toNat_lt d.toNat_lt h
    simp at hx
    rcases hx with rfl | rfl | rfl | rfl
    · exact toNat_zero this.1
    · exact toNat_zero this.2.1
    · exact toNat_zero this.2.2.1
    · exact toNat_zero this.2.2.2
  | a :: b :: c :: d :: e :: r, hw, _ => simp at hw
/-- **Bytes that are turned within four that follow one another have another sum.** -/
theorem burst_apart (p l : List UInt8) (w : List UInt8) (hw : w.length ≤ 4) (hl : w.length ≤ l.length) (hne : ∃ c ∈ w, c ≠ 0) : sumL (p ++ turn l w) ≠ sumL (p ++ l) := by
  intro h
  unfold sumL at h
  rw [nextL_append, nextL_append] at h
  unfold nextL at h
  have hs : notB (notB (run (notB 0) p)) < 4294967296 := notB_lt _
  obtain ⟨s, hse⟩ : ∃ s, notB (notB (run (notB 0) p)) = s := ⟨_, rfl⟩
  rw [hse] at h hs
  have h1 := notB_inj (run_lt _ hs) (run_lt _ hs) h
  have h2 := run_turn l w s 0 hl
  rw [Nat.xor_zero, h1] at h2
  have h3 := xor_eq_left h2.symm
  rw [run_append] at h3
  have hz : run 0 (List.replicate (l.length - w.length) (0 : UInt8)) = 0 := run_zeros _
  have h4 : run 0 w = 0 := run_inj _ (run_lt w (by omega)) (by omega) (h3.trans hz.symm)
  obtain ⟨c, hc, hc0⟩ := hne
  exact hc0 (burst_none w hw h4 c hc)
end Go.Proofs.Ytfnohcmoaooghaa.CM
