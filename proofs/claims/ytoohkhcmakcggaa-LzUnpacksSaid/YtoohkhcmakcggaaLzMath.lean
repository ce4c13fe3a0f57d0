/-
  Bytes packed, as plain lists: matches, runs, what is packed, what it is unpacked to; there and back; how many bytes at most. No program; no condition.
-/
set_option linter.unusedVariables false
namespace Go.Proofs.Ytoohkhcmakcggaa.LZ

/-! ### alike, match -/
/-- How many bytes are alike, at most so many. -/
def alikeL : Nat → List UInt8 → List UInt8 → Nat
  | k + 1, x :: xs, y :: ys => if x = y then alikeL k xs ys + 1 else 0
  | _, _, _ => 0
theorem alikeL_le : ∀ (k : Nat) (x y : List UInt8), alikeL k x y ≤ k ∧ alikeL k x y ≤ y.length
  | 0, x, y => by simp [alikeL]
  | k + 1, [], y => by simp [alikeL]
  | k + 1, _ :: _, [] => by simp [alikeL]
  | k + 1, x :: xs, y :: ys => by
    have := alikeL_le k xs ys
    unfold alikeL
    split <;> simp <;> omega
theorem alikeL_take : ∀ (k : Nat) (x y : List UInt8), x.take (alikeL k x y) = y.take (alikeL k x y)
  | 0, x, y => by simp [alikeL]
  | k + 1, [], y => by simp [alikeL]
  | k + 1, _ :: _, [] => by simp [alikeL]
  | k + 1, x :: xs, y :: ys => by
    have := alikeL_take k xs ys
    unfold alikeL
    split
    · rename_i h
      subst h
      simp [this]
    · simp
/-- One byte more that is alike. -/
theorem alikeL_next {k n : Nat} {x y : List UInt8} (hx : n < x.length) (hy : n < y.length) (hk : n < k) (h : x.take n = y.take n) (he : x[n] = y[n]) : n < alikeL k x y := by
  induction n generalizing k x y with
  | zero =>
    match k, x, y, hx, hy, hk, he with
    | k + 1, x :: xs, y :: ys, _, _, _, he =>
      simp only [List.getElem_cons_zero] at he
      unfold alikeL
      rw [if_pos he]
      omega
  | succ n ih =>
    match k, x, y, hx, hy, hk, h, he with
    | k + 1, x :: xs, y :: ys, hx, hy, hk, h, he =>
      simp only [List.take_succ_cons, List.cons.injEq] at h
      have := ih (k := k) (x := xs) (y := ys) (by simpa using hx) (by simpa using hy) (by omega) h.2 (by simpa using he)
      unfold alikeL
      rw [if_pos h.1]
      omega
theorem alikeL_stop {k n : Nat} {x y : List UInt8} (h : x.take n = y.take n) (hn : n ≤ k) (hx : n ≤ x.length) (hy : n ≤ y.length) (hs : n = k ∨ n = y.length ∨ n = x.length ∨ ∃ (h1 : n < x.length) (h2 : n < y.length), x[n] ≠ y[n]) : alikeL k x y = n := by
  induction n generalizing k x y with
  | zero =>
    rcases hs with h0 | h0 | h0 | ⟨h1, h2, h3⟩
    · subst h0; simp [alikeL]
    · have := (alikeL_le k x y).2; omega
    · have : x = [] := List.eq_nil_of_length_eq_zero h0.symm
      subst this
      cases k <;> simp [alikeL]
    · match k, x, y, h1, h2, h3 with
      | 0, _, _, _, _, _ => simp [alikeL]
      | k + 1, x :: xs, y :: ys, _, _, h3 =>
        unfold alikeL
        rw [if_neg (by simpa using h3)]
  | succ n ih =>
    match k, x, y, h, hn, hx, hy, hs with
    | k + 1, x :: xs, y :: ys, h, hn, hx, hy, hs =>
      simp only [List.take_succ_cons, List.cons.injEq] at h
      unfold alikeL
      rw [if_pos h.1, ih (k := k) h.2 (by omega) (by simpa using hx) (by simpa using hy) ?_]
      rcases hs with h0 | h0 | h0 | ⟨h1, h2, h3⟩
      · exact .inl (by omega)
      · exact .inr (.inl (by simpa using h0))
      · exact .inr (.inr (.inl (by simpa using h0)))
      · exact .inr (.inr (.inr ⟨by simpa using h1, by simpa using h2, by simpa using h3⟩))

/-- How many bytes from two places on are alike. -/
def alikeAt (b : List UInt8) (from_ at_ : Nat) : Nat := alikeL 131 (b.drop from_) (b.drop at_)
/-- The best at a place, of the places not farther back than d: how far back, how long. -/
def matchF (b : List UInt8) (at_ : Nat) : Nat → Nat × Nat
  | 0 => (0, 0)
  | d + 1 => if 4 ≤ alikeAt b (at_ - (d + 1)) at_ ∧ (matchF b at_ d).2 < alikeAt b (at_ - (d + 1)) at_ then (d + 1, alikeAt b (at_ - (d + 1)) at_) else matchF b at_ d
def matchL (b : List UInt8) (at_ : Nat) : Nat × Nat := matchF b at_ (min at_ 65535)
theorem matchF_is (b : List UInt8) (at_ : Nat) : ∀ d, matchF b at_ d = (0, 0) ∨ (1 ≤ (matchF b at_ d).1 ∧ (matchF b at_ d).1 ≤ d ∧ 4 ≤ (matchF b at_ d).2 ∧ (matchF b at_ d).2 = alikeAt b (at_ - (matchF b at_ d).1) at_)
  | 0 => .inl rfl
  | d + 1 => by
    unfold matchF
    split
    · rename_i h
      exact .inr ⟨by simp, by simp, h.1, rfl⟩
    · rcases matchF_is b at_ d with h | ⟨h1, h2, h3, h4⟩
      · exact .inl h
      · exact .inr ⟨h1, by omega, h3, h4⟩
theorem alikeAt_le (b : List UInt8) (f a : Nat) : alikeAt b f a ≤ 131 ∧ alikeAt b f a ≤ b.length - a := by
  have := alikeL_le 131 (b.drop f) (b.drop a)
  rw [List.length_drop] at this
  exact this
theorem matchL_is (b : List UInt8) (at_ : Nat) : matchL b at_ = (0, 0) ∨ (1 ≤ (matchL b at_).1 ∧ (matchL b at_).1 ≤ at_ ∧ (matchL b at_).1 ≤ 65535 ∧ 4 ≤ (matchL b at_).2 ∧ (matchL b at_).2 ≤ 131 ∧ at_ + (matchL b at_).2 ≤ b.length ∧ (matchL b at_).2 = alikeAt b (at_ - (matchL b at_).1) at_) := by
  rcases matchF_is b at_ (min at_ 65535) with h | ⟨h1, h2, h3, h4⟩
  · exact .inl h
  · have hle := alikeAt_le b (at_ - (matchL b at_).1) at_
    have h4' : (matchL b at_).2 = alikeAt b (at_ - (matchL b at_).1) at_ := h4
    rw [← h4'] at hle
    exact .inr ⟨h1, by show (matchF b at_ _).1 ≤ _; omega, by show (matchF b at_ _).1 ≤ _; omega, h3, hle.1, by have : 4 ≤ (matchL b at_).2 := h3; omega, h4⟩

/-! ### orders -/
def runB (l : List UInt8) : List UInt8 := if l = [] then [] else UInt8.ofNat (l.length - 1) :: l
def matB (far long : Nat) : List UInt8 := [UInt8.ofNat (long + 124), UInt8.ofNat (far / 256), UInt8.ofNat far]
/-- Bytes from a place on, up to another. -/
def part (b : List UInt8) (i j : Nat) : List UInt8 := (b.drop i).take (j - i)
/-- What is put out yet: a run's first byte stands at from, one is at at. -/
def packF (b : List UInt8) : Nat → Nat → Nat → List UInt8
  | 0, f, _ => runB (b.drop f)
  | k + 1, f, a =>
    if b.length ≤ a then runB (b.drop f)
    else if (matchL b a).2 = 0 then
      (if a + 1 - f = 128 then runB (part b f (a + 1)) ++ packF b k (a + 1) (a + 1) else packF b k f (a + 1))
    else runB (part b f a) ++ (matB (matchL b a).1 (matchL b a).2 ++ packF b k (a + (matchL b a).2) (a + (matchL b a).2))
/-- A number's four bytes, the highest first. -/
def fourB (n : Nat) : List UInt8 := [UInt8.ofNat (n / 16777216), UInt8.ofNat (n / 65536), UInt8.ofNat (n / 256), UInt8.ofNat n]
def packL (b : List UInt8) : List UInt8 := fourB b.length ++ packF b b.length 0 0
theorem packF_end {b : List UInt8} {k f a : Nat} (h : b.length ≤ a) : packF b k f a = runB (b.drop f) := by
  cases k with
  | zero => rfl
  | succ k => unfold packF; rw [if_pos h]

/-! ### unpacked -/
def copyL : Nat → Nat → List UInt8 → List UInt8
  | 0, _, out => out
  | n + 1, d, out => copyL n d (out ++ [out.getD (out.length - d) 0])
theorem copyL_len : ∀ (n d : Nat) (out : List UInt8), (copyL n d out).length = out.length + n
  | 0, _, _ => rfl
  | n + 1, d, out => by
    unfold copyL
    rw [copyL_len n d]
    simp
    omega
/-- What orders stand for, behind what is there already; none: they are wrong. -/
def unF (n : Nat) : Nat → List UInt8 → List UInt8 → Option (List UInt8)
  | _, [], out => if out.length = n then some out else none
  | 0, _ :: _, _ => none
  | k + 1, c :: l, out =>
    if c.toNat < 128 then
      (if l.length < c.toNat + 1 ∨ n - out.length < c.toNat + 1 then none else unF n k (l.drop (c.toNat + 1)) (out ++ l.take (c.toNat + 1)))
    else match l with
      | h :: m :: l' =>
        if 256 * h.toNat + m.toNat = 0 ∨ out.length < 256 * h.toNat + m.toNat ∨ n - out.length < c.toNat - 124 then none
        else unF n k l' (copyL (c.toNat - 124) (256 * h.toNat + m.toNat) out)
      | _ => none
/-- What stands behind an order's first byte from 128 on. -/
def matF (n k : Nat) (c : UInt8) (l out : List UInt8) : Option (List UInt8) :=
  match l with
  | h :: m :: l' =>
    if 256 * h.toNat + m.toNat = 0 ∨ out.length < 256 * h.toNat + m.toNat ∨ n - out.length < c.toNat - 124 then none
    else unF n k l' (copyL (c.toNat - 124) (256 * h.toNat + m.toNat) out)
  | _ => none
theorem unF_run_ {n k : Nat} {c : UInt8} {l out : List UInt8} (h : c.toNat < 128) : unF n (k + 1) (c :: l) out = if l.length < c.toNat + 1 ∨ n - out.length < c.toNat + 1 then none else unF n k (l.drop (c.toNat + 1)) (out ++ l.take (c.toNat + 1)) := by
  show (if c.toNat < 128 then _ else _) = _
  rw [if_pos h]
theorem unF_mat_ {n k : Nat} {c : UInt8} {l out : List UInt8} (h : ¬ c.toNat < 128) : unF n (k + 1) (c :: l) out = matF n k c l out := by
  show (if c.toNat < 128 then _ else _) = _
  rw [if_neg h]
  rfl
def sizeOf4 : List UInt8 → Nat
  | a :: b :: c :: d :: _ => a.toNat * 16777216 + b.toNat * 65536 + c.toNat * 256 + d.toNat
  | _ => 0
/-- How many bytes are told of; the error's number. -/
def lzSize (l : List UInt8) : Nat × Int := if l.length < 4 then (0, 6) else if 16777216 < sizeOf4 l then (0, 2) else (sizeOf4 l, 0)
/-- The bytes; the error's number. -/
def unpackL (l : List UInt8) : List UInt8 × Int :=
  if (lzSize l).2 = 0 then (match unF (lzSize l).1 l.length (l.drop 4) [] with | some out => (out, 0) | none => ([], 50)) else ([], (lzSize l).2)

/-! ### there and back -/
theorem toNat_of {n : Nat} (h : n < 256) : (UInt8.ofNat n).toNat = n := by simp; omega
theorem unF_run {n k : Nat} {l rest out : List UInt8} (h0 : l ≠ []) (h1 : l.length ≤ 128) (h2 : out.length + l.length ≤ n) : unF n (k + 1) (runB l ++ rest) out = unF n k rest (out ++ l) := by
  have hl : 0 < l.length := List.length_pos_iff.2 h0
  unfold runB
  rw [if_neg h0, List.cons_append]
  have hc : (UInt8.ofNat (l.length - 1)).toNat = l.length - 1 := toNat_of (by omega)
  rw [unF_run_ (by omega), hc, if_neg (by rw [List.length_append]; omega), show l.length - 1 + 1 = l.length by omega, List.drop_left, List.take_left]
theorem unF_mat {n k far long : Nat} {rest out : List UInt8} (h1 : 1 ≤ far) (h2 : far ≤ out.length) (h3 : far ≤ 65535) (h4 : 4 ≤ long) (h5 : long ≤ 131) (h6 : out.length + long ≤ n) : unF n (k + 1) (matB far long ++ rest) out = unF n k rest (copyL long far out) := by
  unfold matB
  rw [List.cons_append, List.cons_append, List.cons_append, List.nil_append]
  have hc : (UInt8.ofNat (long + 124)).toNat = long + 124 := toNat_of (by omega)
  have hh : (UInt8.ofNat (far / 256)).toNat = far / 256 := toNat_of (by omega)
  have hm : (UInt8.ofNat far).toNat = far % 256 := by simp
  rw [unF_mat_ (by omega)]
  unfold matF
  dsimp only
  rw [hc, hh, hm, show 256 * (far / 256) + far % 256 = far by omega, if_neg (by omega), show long + 124 - 124 = long by omega]
theorem copy_take {b : List UInt8} {far : Nat} (h1 : 1 ≤ far) : ∀ (n a : Nat), far ≤ a → a + n ≤ b.length → (b.drop (a - far)).take n = (b.drop a).take n → copyL n far (b.take a) = b.take (a + n)
  | 0, a, _, _, _ => rfl
  | n + 1, a, h2, h3, h4 => by
    have e0 : (b.drop (a - far))[0]? = (b.drop a)[0]? := by
      have := congrArg (fun l => l[0]?) h4
      simpa using this
    rw [List.getElem?_drop, List.getElem?_drop, Nat.add_zero, Nat.add_zero, List.getElem?_eq_getElem (by omega), List.getElem?_eq_getElem (by omega)] at e0
    simp only [Option.some.injEq] at e0
    have hlen : (b.take a).length = a := by rw [List.length_take]; omega
    have hg : (b.take a).getD ((b.take a).length - far) 0 = b[a] := by
      rw [hlen, ← e0]
      simp [List.getD, show a - far < a by omega, List.getElem?_eq_getElem (show a - far < b.length by omega)]
    unfold copyL
    rw [hg, ← List.take_succ_eq_append_getElem (by omega)]
    have h5 : (b.drop (a + 1 - far)).take n = (b.drop (a + 1)).take n := by
      have := congrArg (fun l => l.drop 1) h4
      simp only [List.drop_take, List.drop_drop, Nat.add_sub_cancel] at this
      rw [show a + 1 - far = a - far + 1 by omega]
      exact this
    rw [copy_take h1 n (a + 1) (by omega) (by omega) h5]
    congr 1
    omega
/-- More than the orders' length is never needed. -/
theorem unF_fuel (n : Nat) : ∀ (k : Nat) (l out r : List UInt8), unF n k l out = some r → ∀ K, l.length ≤ K → unF n K l out = some r
  | k, [], out, r, h, K, _ => by
    cases k <;> cases K <;> simpa [unF] using h
  | 0, _ :: _, _, _, h, _, _ => by simp [unF] at h
  | k + 1, c :: l, out, r, h, K, hK => by
    obtain ⟨K', rfl⟩ : ∃ K', K = K' + 1 := ⟨K - 1, by simp at hK; omega⟩
    simp only [List.length_cons] at hK
    by_cases hc : c.toNat < 128
    · rw [unF_run_ hc] at h ⊢
      split at h
      · cases h
      · rename_i hl
        rw [if_neg hl]
        exact unF_fuel n k _ _ r h K' (by rw [List.length_drop]; omega)
    · rw [unF_mat_ hc] at h ⊢
      match l, h, hK with
      | [], h, _ => cases h
      | [_], h, _ => cases h
      | x :: m :: l', h, hK =>
        unfold matF at h ⊢
        dsimp only at h ⊢
        split at h
        · cases h
        · rename_i hl
          rw [if_neg hl]
          exact unF_fuel n k _ _ r h K' (by simp at hK; omega)
theorem part_len {b : List UInt8} {i j : Nat} (h1 : i ≤ j) (h2 : j ≤ b.length) : (part b i j).length = j - i := by
  unfold part
  rw [List.length_take, List.length_drop]
  omega
theorem take_part {b : List UInt8} {i j : Nat} (h : i ≤ j) : b.take i ++ part b i j = b.take j := by
  unfold part
  rw [← List.take_add]
  congr 1
  omega
theorem unF_part {n k : Nat} {b rest : List UInt8} {i j : Nat} (h1 : i ≤ j) (h2 : j ≤ b.length) (h3 : j - i ≤ 128) (hn : b.length ≤ n) (K : Nat) (hk : k + 1 ≤ K) (h : ∀ K, k ≤ K → unF n K rest (b.take j) = some b) : unF n K (runB (part b i j) ++ rest) (b.take i) = some b := by
  have hl : (b.take i).length = i := by rw [List.length_take]; omega
  by_cases hij : i = j
  · subst hij
    have e : part b i i = [] := by simp [part]
    rw [e]
    exact h K (by omega)
  · obtain ⟨K', rfl⟩ : ∃ K', K = K' + 1 := ⟨K - 1, by omega⟩
    have hp := part_len h1 h2
    have hne : part b i j ≠ [] := fun e => by rw [e] at hp; simp at hp; omega
    rw [unF_run hne (by omega) (by omega), take_part h1]
    exact h K' (by omega)
theorem back_F {b : List UInt8} : ∀ (k f a : Nat), f ≤ a → a ≤ b.length → a - f < 128 → b.length - a ≤ k → ∀ K, 2 * k + 1 ≤ K → unF b.length K (packF b k f a) (b.take f) = some b
  | k, f, a, h1, h2, h3, h4, K, hK => by
    have hlast : a = b.length → unF b.length K (runB (b.drop f)) (b.take f) = some b := fun e => by
      have hp : part b f b.length = b.drop f := by
        unfold part
        exact List.take_of_length_le (by rw [List.length_drop]; omega)
      have := unF_part (n := b.length) (k := 0) (b := b) (rest := []) (i := f) (j := b.length) (by omega) (Nat.le_refl _) (by omega) (Nat.le_refl _) K (by omega) (fun K' _ => by
        rw [List.take_length]
        cases K' <;> simp [unF])
      rw [hp, List.append_nil] at this
      exact this
    by_cases hend : b.length ≤ a
    · rw [packF_end hend]
      exact hlast (by omega)
    · obtain ⟨k', rfl⟩ : ∃ k', k = k' + 1 := ⟨k - 1, by omega⟩
      unfold packF
      rw [if_neg hend]
      rcases matchL_is b a with hm | ⟨m1, m2, m3, m4, m5, m6, m7⟩
      · rw [hm]
        simp only [if_true]
        split
        · refine unF_part (k := 2 * k' + 1) (by omega) (by omega) (by omega) (Nat.le_refl _) K (by omega) (fun K' hK' => ?_)
          exact back_F k' (a + 1) (a + 1) (Nat.le_refl _) (by omega) (by omega) (by omega) K' hK'
        · exact back_F k' f (a + 1) (by omega) (by omega) (by omega) (by omega) K (by omega)
      · rw [if_neg (by omega)]
        refine unF_part (k := 2 * k' + 1 + 1) (by omega) (by omega) (by omega) (Nat.le_refl _) K (by omega) (fun K' hK' => ?_)
        obtain ⟨K2, rfl⟩ : ∃ K2, K' = K2 + 1 := ⟨K' - 1, by omega⟩
        have hl : (b.take a).length = a := by rw [List.length_take]; omega
        rw [unF_mat m1 (by omega) m3 m4 m5 (by omega)]
        have htk := alikeL_take 131 (b.drop (a - (matchL b a).1)) (b.drop a)
        rw [copy_take m1 _ a m2 m6 (by
          have e : alikeL 131 (b.drop (a - (matchL b a).1)) (b.drop a) = (matchL b a).2 := m7.symm
          rw [e] at htk
          exact htk)]
        exact back_F k' _ _ (Nat.le_refl _) m6 (by omega) (by omega) K2 (by omega)
theorem size_four {n : Nat} (h : n ≤ 16777216) (l : List UInt8) : sizeOf4 (fourB n ++ l) = n := by
  simp only [fourB, List.cons_append, List.nil_append, sizeOf4, UInt8.toNat_ofNat']
  omega
/-- What is packed is unpacked. -/
theorem lz_back {b : List UInt8} (h : b.length ≤ 16777216) : unpackL (packL b) = (b, 0) ∧ lzSize (packL b) = (b.length, 0) := by
  have hs : lzSize (packL b) = (b.length, 0) := by
    unfold lzSize packL
    rw [size_four h, if_neg (by simp [fourB]), if_neg (by omega)]
  refine ⟨?_, hs⟩
  have hd : (packL b).drop 4 = packF b b.length 0 0 := rfl
  have hlen : 4 ≤ (packL b).length := by simp [packL, fourB]
  unfold unpackL
  rw [hs, hd]
  simp only [if_true]
  have hf : ∀ K, (packF b b.length 0 0).length ≤ K → unF b.length K (packF b b.length 0 0) [] = some b := fun K hK => by
    have := unF_fuel b.length (2 * b.length + 1) (packF b b.length 0 0) [] b (back_F b.length 0 0 (Nat.le_refl _) (Nat.zero_le _) (by omega) (by omega) _ (Nat.le_refl _)) K hK
    exact this
  rw [hf _ (by rw [← hd, List.length_drop]; omega)]

/-! ### how many bytes at most -/
theorem runB_len (l : List UInt8) : (runB l).length ≤ l.length + 1 ∧ (l = [] → (runB l).length = 0) := by
  unfold runB
  split
  · simp_all
  · simp_all
theorem bound_F {b : List UInt8} : ∀ (k f a : Nat), f ≤ a → a ≤ b.length → a - f < 128 → b.length - a ≤ k → (packF b k f a).length ≤ (b.length - f) + (b.length - f + 127) / 128
  | k, f, a, h1, h2, h3, h4 => by
    by_cases hend : b.length ≤ a
    · rw [packF_end hend]
      have hr := runB_len (b.drop f)
      rw [List.length_drop] at hr
      by_cases h0 : b.length - f = 0
      · have := hr.2 (List.eq_nil_of_length_eq_zero (by rw [List.length_drop]; exact h0))
        omega
      · omega
    · obtain ⟨k', rfl⟩ : ∃ k', k = k' + 1 := ⟨k - 1, by omega⟩
      unfold packF
      rw [if_neg hend]
      rcases matchL_is b a with hm | ⟨m1, m2, m3, m4, m5, m6, m7⟩
      · rw [hm]
        simp only [if_true]
        split
        · have hp := part_len (b := b) (i := f) (j := a + 1) (by omega) (by omega)
          have hr := (runB_len (part b f (a + 1))).1
          have ih := bound_F (b := b) k' (a + 1) (a + 1) (Nat.le_refl _) (by omega) (by omega) (by omega)
          rw [List.length_append]
          omega
        · exact bound_F k' f (a + 1) (by omega) (by omega) (by omega) (by omega)
      · rw [if_neg (by omega)]
        have hp := part_len (b := b) (i := f) (j := a) (by omega) (by omega)
        have hr := runB_len (part b f a)
        have ih := bound_F (b := b) k' (a + (matchL b a).2) (a + (matchL b a).2) (Nat.le_refl _) m6 (by omega) (by omega)
        have hl : (matB (matchL b a).1 (matchL b a).2).length = 3 := rfl
        rw [List.length_append, List.length_append, hl]
        generalize (matchL b a).2 = L at *
        by_cases hfa : f = a
        · have := hr.2 (List.eq_nil_of_length_eq_zero (by omega))
          omega
        · omega
theorem pack_bound (b : List UInt8) : (packL b).length ≤ b.length + 4 + (b.length + 127) / 128 := by
  have := bound_F (b := b) b.length 0 0 (Nat.le_refl _) (Nat.zero_le _) (by omega) (by omega)
  unfold packL
  rw [List.length_append]
  have h4 : (fourB b.length).length = 4 := rfl
  omega

/-! ### bytes that are all alike -/
theorem alikeL_rep (c : UInt8) : ∀ (k m n : Nat), alikeL k (List.replicate m c) (List.replicate n c) = min k (min m n)
  | 0, m, n => by simp [alikeL]
  | k + 1, 0, n => by simp [alikeL]
  | k + 1, m + 1, 0 => by simp [alikeL, List.replicate_succ]
  | k + 1, m + 1, n + 1 => by
    rw [List.replicate_succ, List.replicate_succ]
    unfold alikeL
    rw [if_pos rfl, alikeL_rep c k m n]
    omega
theorem alikeAt_rep (c : UInt8) (n f a : Nat) (h : f ≤ a) : alikeAt (List.replicate n c) f a = min 131 (n - a) := by
  unfold alikeAt
  rw [List.drop_replicate, List.drop_replicate, alikeL_rep]
  omega
theorem matchF_rep (c : UInt8) (n a : Nat) : ∀ d, (matchF (List.replicate n c) a (d + 1)).2 = if 4 ≤ min 131 (n - a) then min 131 (n - a) else 0
  | 0 => by
    unfold matchF
    rw [alikeAt_rep c n _ a (by omega)]
    show (if 4 ≤ min 131 (n - a) ∧ (0, 0).2 < min 131 (n - a) then ((0 + 1, min 131 (n - a)) : Nat × Nat) else (0, 0)).2 = _
    by_cases h : 4 ≤ min 131 (n - a)
    · rw [if_pos ⟨h, by show 0 < _; omega⟩, if_pos h]
    · rw [if_neg (fun h' => h h'.1), if_neg h]
  | d + 1 => by
    have ih := matchF_rep c n a d
    rw [matchF, alikeAt_rep c n _ a (by omega)]
    split
    · rename_i h
      rw [if_pos h.1]
    · exact ih
theorem matchL_rep (c : UInt8) (n a : Nat) : (matchL (List.replicate n c) a).2 = if a = 0 then 0 else if 4 ≤ min 131 (n - a) then min 131 (n - a) else 0 := by
  unfold matchL
  by_cases h : a = 0
  · subst h; rfl
  · rw [if_neg h]
    obtain ⟨d, hd⟩ : ∃ d, min a 65535 = d + 1 := ⟨min a 65535 - 1, by omega⟩
    rw [hd]
    exact matchF_rep c n a d
/-- Where no match is to come, a run takes all. -/
theorem packF_tail {b : List UInt8} : ∀ (k f a : Nat), b.length - a ≤ k → f ≤ a → b.length - f < 128 → (∀ i, a ≤ i → i < b.length → (matchL b i).2 = 0) → packF b k f a = runB (b.drop f)
  | 0, f, a, _, _, _, _ => rfl
  | k + 1, f, a, h1, h2, h3, h4 => by
    by_cases hend : b.length ≤ a
    · exact packF_end hend
    · unfold packF
      rw [if_neg hend, if_pos (h4 a (Nat.le_refl _) (by omega)), if_neg (by omega)]
      exact packF_tail k f (a + 1) (by omega) (by omega) h3 (fun i hi => h4 i (by omega))
theorem small_F (c : UInt8) (n : Nat) : ∀ (k f a : Nat), 1 ≤ a → f ≤ a → a - f ≤ 1 → n - a ≤ k → a ≤ n → (packF (List.replicate n c) k f a).length ≤ 2 * (a - f) + 3 * ((n - a + 130) / 131) + 1 + (if n - a < 4 then 0 else 0)
  | k, f, a, h0, h1, h2, h3, h4 => by
    have hn : (List.replicate n c).length = n := List.length_replicate
    by_cases hs : n - a < 4
    · rw [packF_tail k f a (by rw [hn]; omega) h1 (by rw [hn]; omega) (fun i hi hlt => by
        rw [matchL_rep, if_neg (by omega), if_neg (by omega)])]
      have hr := runB_len ((List.replicate n c).drop f)
      rw [List.length_drop, hn] at hr
      by_cases h : n - f = 0
      · have := hr.2 (List.eq_nil_of_length_eq_zero (by rw [List.length_drop, hn]; exact h))
        omega
      · omega
    · obtain ⟨k', rfl⟩ : ∃ k', k = k' + 1 := ⟨k - 1, by omega⟩
      have hm := matchL_rep c n a
      rw [if_neg (by omega), if_pos (by omega)] at hm
      unfold packF
      rw [hn, if_neg (by omega), hm, if_neg (by omega)]
      have ih := small_F c n k' (a + min 131 (n - a)) (a + min 131 (n - a)) (by omega) (Nat.le_refl _) (by omega) (by omega) (by omega)
      have hp := part_len (b := List.replicate n c) (i := f) (j := a) h1 (by rw [hn]; omega)
      have hr := runB_len (part (List.replicate n c) f a)
      have hl : (matB (matchL (List.replicate n c) a).1 (min 131 (n - a))).length = 3 := rfl
      rw [List.length_append, List.length_append, hl]
      have hr2 : (runB (part (List.replicate n c) f a)).length ≤ 2 * (a - f) := by
        by_cases hfa : f = a
        · have := hr.2 (List.eq_nil_of_length_eq_zero (by omega))
          omega
        · omega
      simp only [Nat.sub_self, Nat.mul_zero, Nat.zero_add, ite_self, Nat.add_zero] at ih ⊢
      omega
theorem pack_small (c : UInt8) (n : Nat) : (packL (List.replicate n c)).length ≤ 9 + 3 * ((n + 130) / 131) := by
  have hn : (List.replicate n c).length = n := List.length_replicate
  have h4 : (fourB n).length = 4 := rfl
  unfold packL
  rw [List.length_append, hn, h4]
  cases n with
  | zero => simp [packF, runB]
  | succ m =>
    have e : packF (List.replicate (m + 1) c) (m + 1) 0 0 = packF (List.replicate (m + 1) c) m 0 1 := by
      rw [packF, hn, if_neg (by omega)]
      have : (matchL (List.replicate (m + 1) c) 0).2 = 0 := by rw [matchL_rep]; rfl
      rw [if_pos this, if_neg (by omega)]
    rw [e]
    have := small_F c (m + 1) m 0 1 (by omega) (by omega) (by omega) (by omega) (by omega)
    simp only [ite_self, Nat.add_zero] at this
    omega
end Go.Proofs.Ytoohkhcmakcggaa.LZ
