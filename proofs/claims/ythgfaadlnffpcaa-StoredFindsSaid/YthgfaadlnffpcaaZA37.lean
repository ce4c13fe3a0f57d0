/-
  The states of the code's reader of rows of docs: heads, docs, blocks, all of them; what is decoded so is what the reference decodes. No program of its own; no condition.
-/
import Derived.Test.YthgfaadlnffpcaaZA36
import Derived.Test.YthgfaadlnffpcaaZA12
set_option linter.unusedVariables false
namespace Go.Proofs.Ythgfaadlnffpcaa.SR
open Go Go.RowKit Go.Proofs.Ythgfaadlnffpcaa.MM Go.Proofs.Ythgfaadlnffpcaa.VM Go.Proofs.Ythgfaadlnffpcaa.SM
open Go.Proofs.Ythgfaadlnffpcaa.EM (Fld Ev checkE FitE bytesE bytesE_len getE getE_put getE_back)
open Go.Proofs.Ythgfaadlnffpcaa.EV (getR getR_some getR_none)

/-! ### pieces -/
theorem num_ok {m : Nat} {l : List UInt8} (o : Bool) (h : (getL l).2.2 = 0) (h2 : (getL l).1 ≤ m) : numSt m l o = ((getL l).1, l.drop (getL l).2.1, o) := by
  unfold numSt VG.restL
  rw [if_pos ⟨h, h2⟩, if_pos h]
theorem num_le (m : Nat) (l : List UInt8) (o : Bool) : (numSt m l o).1 ≤ m := by
  unfold numSt
  split
  · rename_i h; exact h.2
  · exact Nat.zero_le _
theorem num_rest (m : Nat) (l : List UInt8) (o : Bool) : (numSt m l o).2.1.length ≤ l.length := by
  unfold numSt VG.restL
  split
  · dsimp only
    split
    · rw [List.length_drop]; omega
    · simp
  · simp
theorem num_put {n m : Nat} (h : n ≤ m) (hn : n < 18446744073709551616) (r : List UInt8) (o : Bool) : numSt m (bytesL n ++ r) o = (n, r, o) := by
  have e := getL_put n hn r
  rw [num_ok o (by rw [e]) (by rw [e]; exact h), e]
  dsimp only
  rw [List.drop_left]
theorem num_back {m : Nat} {l : List UInt8} {o : Bool} (h : (numSt m l o).2.2 = false) : o = false ∧ bytesL (numSt m l o).1 ++ (numSt m l o).2.1 = l := by
  by_cases h1 : (getL l).2.2 = 0 ∧ (getL l).1 ≤ m
  · rw [num_ok o h1.1 h1.2] at h ⊢
    exact ⟨h, getL_back (Prod.ext rfl (Prod.ext rfl h1.1))⟩
  · unfold numSt at h
    rw [if_neg h1] at h
    cases h
theorem ev_put {e : Ev} (hf : FitE e) (h : checkE e = 0) (r : List UInt8) (o : Bool) : evS (bytesE e ++ r) o = (e, r, o) := by
  unfold evS
  rw [getR_some (getE_put hf h r)]
  simp
theorem ev_back {l : List UInt8} {o : Bool} (h : (evS l o).2.2 = false) : o = false ∧ bytesE (evS l o).1 ++ (evS l o).2.1 = l ∧ FitE (evS l o).1 ∧ checkE (evS l o).1 = 0 := by
  unfold evS at h ⊢
  cases hg : getE l with
  | none => rw [getR_none hg] at h; simp at h
  | some p =>
    obtain ⟨e, r⟩ := p
    rw [getR_some hg] at h ⊢
    dsimp only at h ⊢
    obtain ⟨h1, h2, h3⟩ := getE_back hg
    exact ⟨by simpa using h, h1, h2, h3⟩
theorem ev_rest (l : List UInt8) (o : Bool) : (evS l o).2.1.length ≤ l.length := by
  unfold evS
  cases hg : getE l with
  | none => rw [getR_none hg]; simp
  | some p =>
    obtain ⟨e, r⟩ := p
    rw [getR_some hg]
    have := congrArg List.length (getE_back hg).1
    rw [List.length_append] at this
    dsimp only
    omega

/-! ### what is read -/
abbrev Head := Int × (Int × Int)
def headsSt : Nat → Nat → List UInt8 → Bool → List Head × List UInt8 × Bool
  | 0, _, l, o => ([], l, o)
  | f + 1, n, l, o => if n = 0 then ([], l, o) else
    let a := numSt 1099511627776 l o
    let b := numSt a.2.1.length a.2.1 a.2.2
    let r := headsSt f (n - 16) b.2.1 b.2.2
    (((min n 16 : Nat), ((a.1 : Int), (b.1 : Int))) :: r.1, r.2)
def docsSt : Nat → Int → List UInt8 → Bool → List Doc × Int × List UInt8 × Bool
  | 0, a, l, o => ([], a, l, o)
  | f + 1, a, l, o =>
    let k := numSt 1099511627776 l o
    let e := evS k.2.1 k.2.2
    let r := docsSt f (a + (1 + (k.1 : Int))) e.2.1 e.2.2
    ((a + (1 + (k.1 : Int)), e.1) :: r.1, r.2)
def blkSt (h : Head) (a : Int) (l : List UInt8) (o : Bool) : List Doc × List UInt8 × Bool :=
  if (l.length : Int) < h.2.2 then ([], [], true) else
  let s := docsSt h.1.toNat a (l.take h.2.2.toNat) false
  if s.2.2.2 = true ∨ s.2.2.1 ≠ [] ∨ s.2.1 ≠ h.2.1 then (s.1, [], true) else (s.1, l.drop h.2.2.toNat, o)
def rowSt : List Head → Int → List UInt8 → Bool → List (List Doc) × List UInt8 × Bool
  | [], _, l, o => ([], l, o)
  | h :: r, a, l, o =>
    let b := blkSt h a l o
    if b.2.2 = true then ([], b.2.1, true) else
    let q := rowSt r h.2.1 b.2.1 b.2.2
    (b.1 :: q.1, q.2)
def allSt (b : List UInt8) : List (List Doc) × List UInt8 × Bool :=
  let n := numSt 65536 b false
  let h := headsSt 4096 n.1 n.2.1 n.2.2
  rowSt h.1 0 h.2.1 h.2.2
def decC (b : List UInt8) : Option (List Doc) := if (allSt b).2.2 = true ∨ (allSt b).2.1 ≠ [] then none else some (allSt b).1.flatten

/-! ### .. and what was written -/
/-- What is told of blocks. -/
def headsOf : Int → List (List Doc) → List Head
  | _, [] => []
  | a, c :: r => ((c.length : Int), (endA a c, ((blkS a c).length : Int))) :: headsOf (endA a c) r
def hbytes (hs : List Head) : List UInt8 := hs.flatMap fun h => bytesL h.2.1.toNat ++ bytesL h.2.2.toNat
def bodies : Int → List (List Doc) → List UInt8
  | _, [] => []
  | a, c :: r => blkS a c ++ bodies (endA a c) r
/-- Blocks of sixteen, the last one of what is left. -/
def Six : Nat → List (List Doc) → Prop
  | n, [] => n = 0
  | n, c :: r => 0 < n ∧ c.length = min n 16 ∧ Six (n - 16) r
theorem blkS_app : ∀ (a : Int) (c d : List Doc), blkS a (c ++ d) = blkS a c ++ blkS (endA a c) d
  | _, [], _ => rfl
  | a, x :: r, d => by rw [List.cons_append, blkS, blkS_app x.1 r d, blkS, endA, List.append_assoc (bytesL (x.1 - a - 1).toNat ++ bytesE x.2)]
theorem endA_app : ∀ (a : Int) (c d : List Doc), endA a (c ++ d) = endA (endA a c) d
  | _, [], _ => rfl
  | a, x :: r, d => endA_app x.1 r d
theorem bodies_flat : ∀ (a : Int) (bs : List (List Doc)), bodies a bs = blkS a bs.flatten
  | _, [] => rfl
  | a, c :: r => by rw [bodies, bodies_flat, List.flatten_cons, blkS_app]
theorem six_len : ∀ {n : Nat} {bs : List (List Doc)}, Six n bs → bs.flatten.length = n
  | n, [], h => by have h : n = 0 := h; simp [h]
  | n, c :: r, h => by
    obtain ⟨h1, h2, h3⟩ := h
    have := six_len h3
    rw [List.flatten_cons, List.length_append, this, h2]
    omega
theorem six_count : ∀ {n : Nat} {bs : List (List Doc)}, Six n bs → bs.length = (n + 15) / 16
  | n, [], h => by have h : n = 0 := h; simp [h]
  | n, c :: r, h => by
    obtain ⟨h1, h2, h3⟩ := h
    have := six_count h3
    rw [List.length_cons, this]
    omega

/-! ### there -/
theorem docs_put : ∀ {c : List Doc} {a : Int} (r : List UInt8), isR a c = true → FitS c → 0 ≤ a → docsSt c.length a (blkS a c ++ r) false = (c, endA a c, r, false)
  | [], _, _, _, _, _ => rfl
  | d :: c, a, r, h, hf, h0 => by
    rw [isR, Bool.and_eq_true] at h
    obtain ⟨h1, h2, h3⟩ := okS_iff.1 h.1
    have e : a + (1 + ((d.1 - a - 1).toNat : Int)) = d.1 := by omega
    rw [List.length_cons, docsSt, blkS]
    simp only [List.append_assoc]
    rw [num_put (by omega) (by omega)]
    dsimp only
    rw [ev_put (hf d (by simp)) h3]
    dsimp only
    rw [e, docs_put r h.2 (fun x hx => hf x (by simp [hx])) (by omega)]
    rfl
theorem blk_put {c : List Doc} {a : Int} (r : List UInt8) (h : isR a c = true) (hf : FitS c) (h0 : 0 ≤ a) : blkSt ((c.length : Int), (endA a c, ((blkS a c).length : Int))) a (blkS a c ++ r) false = (c, r, false) := by
  have := docs_put [] h hf h0
  rw [List.append_nil] at this
  unfold blkSt
  dsimp only
  rw [if_neg (by rw [List.length_append]; omega), Int.toNat_natCast, Int.toNat_natCast, List.take_left, List.drop_left, this]
  simp
theorem row_put : ∀ {bs : List (List Doc)} {a : Int} (r : List UInt8), isR a bs.flatten = true → FitS bs.flatten → 0 ≤ a → rowSt (headsOf a bs) a (bodies a bs ++ r) false = (bs, r, false)
  | [], _, _, _, _, _ => rfl
  | c :: bs, a, r, h, hf, h0 => by
    rw [List.flatten_cons] at h hf
    rw [isR_app, Bool.and_eq_true] at h
    have h1 := endA_ge h.1
    rw [headsOf, rowSt, bodies, List.append_assoc, blk_put _ h.1 (fun x hx => hf x (List.mem_append_left _ hx)) h0]
    dsimp only
    rw [if_neg (by simp), row_put r h.2 (fun x hx => hf x (List.mem_append_right _ hx)) (by omega)]
theorem heads_put : ∀ {f n : Nat} {bs : List (List Doc)} {a : Int} (r : List UInt8), Six n bs → bs.length ≤ f → isR a bs.flatten = true → 0 ≤ a → a ≤ 1099511627776 → (bodies a bs).length ≤ r.length → r.length < 18446744073709551616 → headsSt f n (hbytes (headsOf a bs) ++ r) false = (headsOf a bs, r, false)
  | 0, n, bs, a, r, h, hl, _, _, _, _, _ => by
    obtain rfl : bs = [] := List.eq_nil_of_length_eq_zero (by omega)
    rfl
  | f + 1, n, [], a, r, h, _, _, _, _, _, _ => by
    have h : n = 0 := h
    rw [headsSt, if_pos h]
    rfl
  | f + 1, n, c :: bs, a, r, h, hl, hr, h0, h9, hb, hm => by
    obtain ⟨s1, s2, s3⟩ := h
    rw [List.flatten_cons, isR_app, Bool.and_eq_true] at hr
    have g1 := endA_ge hr.1
    have g2 := endA_le hr.1 h9
    rw [bodies, List.length_append] at hb
    have hh : hbytes (headsOf a (c :: bs)) ++ r = bytesL (endA a c).toNat ++ (bytesL (blkS a c).length ++ (hbytes (headsOf (endA a c) bs) ++ r)) := by
      rw [headsOf]
      unfold hbytes
      rw [List.flatMap_cons]
      simp only [Int.toNat_natCast, List.append_assoc]
    rw [hh, headsSt, if_neg (by omega), num_put (by omega) (by omega)]
    dsimp only
    rw [num_put (by simp only [List.length_append]; omega) (by omega)]
    dsimp only
    rw [heads_put r s3 (by rw [List.length_cons] at hl; omega) hr.2 (by omega) g2 (by omega) hm, headsOf, s2]
    simp only [show ((endA a c).toNat : Int) = endA a c by omega]

/-! ### back -/
/-- Numbers rise, the events may be; no bound is asked of numbers. -/
def upR : Int → List Doc → Prop
  | _, [] => True
  | a, d :: r => a < d.1 ∧ checkE d.2 = 0 ∧ FitE d.2 ∧ upR d.1 r
theorem up_ge : ∀ {a : Int} {c : List Doc}, upR a c → a ≤ endA a c
  | _, [], _ => Int.le_refl _
  | a, d :: r, h => by
    have := up_ge h.2.2.2
    rw [endA]
    have := h.1
    omega
theorem up_is : ∀ {a : Int} {c : List Doc}, upR a c → endA a c ≤ 1099511627776 → isR a c = true ∧ FitS c
  | _, [], _, _ => ⟨rfl, fun d hd => by simp at hd⟩
  | a, d :: r, h, h9 => by
    rw [endA] at h9
    have h1 := up_ge h.2.2.2
    have h2 := up_is h.2.2.2 h9
    rw [isR, Bool.and_eq_true, okS_iff]
    refine ⟨⟨⟨h.1, by omega, h.2.1⟩, h2.1⟩, fun x hx => ?_⟩
    rcases List.mem_cons.1 hx with rfl | hx
    · exact h.2.2.1
    · exact h2.2 x hx
theorem docs_back : ∀ (f : Nat) (a : Int) (l : List UInt8) (o : Bool), (docsSt f a l o).2.2.2 = false → o = false ∧ (docsSt f a l o).1.length = f ∧ blkS a (docsSt f a l o).1 ++ (docsSt f a l o).2.2.1 = l ∧ upR a (docsSt f a l o).1 ∧ endA a (docsSt f a l o).1 = (docsSt f a l o).2.1
  | 0, _, _, _, h => ⟨h, rfl, rfl, trivial, rfl⟩
  | f + 1, a, l, o, h => by
    rw [docsSt] at h ⊢
    dsimp only at h ⊢
    obtain ⟨h1, h2, h3, h4, h5⟩ := docs_back f _ _ _ h
    obtain ⟨g1, g2, g3, g4⟩ := ev_back h1
    obtain ⟨k1, k2⟩ := num_back g1
    refine ⟨k1, by rw [List.length_cons, h2], ?_, ⟨by show a < a + (1 + _); omega, g4, g3, h4⟩, h5⟩
    rw [blkS]
    dsimp only
    rw [show (a + (1 + ((numSt 1099511627776 l o).1 : Int)) - a - 1).toNat = (numSt 1099511627776 l o).1 by omega]
    rw [List.append_assoc, List.append_assoc, h3, g2, k2]
theorem blk_back {h : Head} {a : Int} {l : List UInt8} {o : Bool} (h0 : 0 ≤ h.2.2) (hn : 0 ≤ h.1) (hb : (blkSt h a l o).2.2 = false) (h9 : h.2.1 ≤ 1099511627776) :
    o = false ∧ ((blkSt h a l o).1.length : Int) = h.1 ∧ blkS a (blkSt h a l o).1 ++ (blkSt h a l o).2.1 = l ∧ isR a (blkSt h a l o).1 = true ∧ FitS (blkSt h a l o).1 ∧ endA a (blkSt h a l o).1 = h.2.1 ∧ ((blkS a (blkSt h a l o).1).length : Int) = h.2.2 := by
  unfold blkSt at hb ⊢
  by_cases h1 : (l.length : Int) < h.2.2
  · rw [if_pos h1] at hb
    cases hb
  · rw [if_neg h1] at hb ⊢
    dsimp only at hb ⊢
    by_cases h2 : (docsSt h.1.toNat a (l.take h.2.2.toNat) false).2.2.2 = true ∨ (docsSt h.1.toNat a (l.take h.2.2.toNat) false).2.2.1 ≠ [] ∨ (docsSt h.1.toNat a (l.take h.2.2.toNat) false).2.1 ≠ h.2.1
    · rw [if_pos h2] at hb
      cases hb
    · rw [if_neg h2] at hb ⊢
      dsimp only at hb ⊢
      have e1 : (docsSt h.1.toNat a (l.take h.2.2.toNat) false).2.2.2 = false := by
        cases hc : (docsSt h.1.toNat a (l.take h.2.2.toNat) false).2.2.2 with
        | false => rfl
        | true => exact absurd (.inl hc) h2
      have e2 : (docsSt h.1.toNat a (l.take h.2.2.toNat) false).2.2.1 = [] := Classical.byContradiction fun hc => h2 (.inr (.inl hc))
      have e3 : (docsSt h.1.toNat a (l.take h.2.2.toNat) false).2.1 = h.2.1 := Classical.byContradiction fun hc => h2 (.inr (.inr hc))
      obtain ⟨_, k2, k3, k4, k5⟩ := docs_back _ _ _ _ e1
      rw [e2, List.append_nil] at k3
      have k6 := up_is k4 (by rw [k5, e3]; exact h9)
      refine ⟨hb, by rw [k2]; omega, by rw [k3, List.take_append_drop], k6.1, k6.2, by rw [k5, e3], ?_⟩
      rw [k3, List.length_take]
      omega
theorem row_back : ∀ (hs : List Head) (a : Int) (l : List UInt8) (o : Bool), (∀ h ∈ hs, 0 ≤ h.1 ∧ 0 ≤ h.2.2 ∧ h.2.1 ≤ 1099511627776) → (rowSt hs a l o).2.2 = false →
    o = false ∧ headsOf a (rowSt hs a l o).1 = hs ∧ bodies a (rowSt hs a l o).1 ++ (rowSt hs a l o).2.1 = l ∧ isR a (rowSt hs a l o).1.flatten = true ∧ FitS (rowSt hs a l o).1.flatten
  | [], _, _, _, _, h => ⟨h, rfl, rfl, rfl, fun d hd => by simp [rowSt] at hd⟩
  | h :: hs, a, l, o, hh, hr => by
    rw [rowSt] at hr ⊢
    dsimp only at hr ⊢
    by_cases h1 : (blkSt h a l o).2.2 = true
    · rw [if_pos h1] at hr
      cases hr
    · rw [if_neg h1] at hr ⊢
      dsimp only at hr ⊢
      obtain ⟨m1, m2, m3⟩ := hh h (by simp)
      have h1 : (blkSt h a l o).2.2 = false := by simpa using h1
      obtain ⟨b1, b2, b3, b4, b5, b6, b7⟩ := blk_back m2 m1 h1 m3
      obtain ⟨_, r2, r3, r4, r5⟩ := row_back hs h.2.1 _ _ (fun x hx => hh x (by simp [hx])) hr
      refine ⟨b1, ?_, ?_, ?_, ?_⟩
      · rw [headsOf, b2, b6, b7, r2]
      · rw [bodies, b6, List.append_assoc, r3, b3]
      · rw [List.flatten_cons, isR_app, b6, b4, r4]; rfl
      · intro d hd
        rw [List.flatten_cons] at hd
        rcases List.mem_append.1 hd with hd | hd
        · exact b5 d hd
        · exact r5 d hd
theorem heads_back : ∀ (f n : Nat) (l : List UInt8) (o : Bool), (n + 15) / 16 ≤ f → (headsSt f n l o).2.2 = false →
    o = false ∧ hbytes (headsSt f n l o).1 ++ (headsSt f n l o).2.1 = l
  | 0, n, l, o, hf, h => ⟨h, rfl⟩
  | f + 1, n, l, o, hf, h => by
    rw [headsSt] at h ⊢
    by_cases hn : n = 0
    · rw [if_pos hn] at h ⊢
      exact ⟨h, rfl⟩
    · rw [if_neg hn] at h ⊢
      dsimp only at h ⊢
      obtain ⟨h1, h2⟩ := heads_back f (n - 16) _ _ (by omega) h
      obtain ⟨g1, g2⟩ := num_back h1
      obtain ⟨k1, k2⟩ := num_back g1
      refine ⟨k1, ?_⟩
      unfold hbytes at h2 ⊢
      rw [List.flatMap_cons]
      dsimp only
      rw [Int.toNat_natCast, Int.toNat_natCast, List.append_assoc, List.append_assoc, h2, g2, k2]
theorem heads_may : ∀ (f n : Nat) (l : List UInt8) (o : Bool), ∀ h ∈ (headsSt f n l o).1, 1 ≤ h.1 ∧ 0 ≤ h.2.2 ∧ (0 ≤ h.2.1 ∧ h.2.1 ≤ 1099511627776) ∧ h.1 ≤ 16 ∧ h.2.2 ≤ l.length
  | 0, n, l, o, h, hh => by simp [headsSt] at hh
  | f + 1, n, l, o, h, hh => by
    rw [headsSt] at hh
    by_cases hn : n = 0
    · rw [if_pos hn] at hh
      simp at hh
    · rw [if_neg hn] at hh
      dsimp only at hh
      have e1 := num_rest 1099511627776 l o
      have e2 := num_rest (numSt 1099511627776 l o).2.1.length (numSt 1099511627776 l o).2.1 (numSt 1099511627776 l o).2.2
      have e3 := num_le 1099511627776 l o
      have e4 := num_le (numSt 1099511627776 l o).2.1.length (numSt 1099511627776 l o).2.1 (numSt 1099511627776 l o).2.2
      rcases List.mem_cons.1 hh with rfl | hh
      · dsimp only
        omega
      · have := heads_may f _ _ _ h hh
        omega
theorem heads_six : ∀ {f n : Nat} {l : List UInt8} {o : Bool} {bs : List (List Doc)} {a : Int}, (n + 15) / 16 ≤ f → headsOf a bs = (headsSt f n l o).1 → Six n bs
  | 0, n, l, o, [], a, hf, h => by show n = 0; omega
  | 0, n, l, o, c :: r, a, hf, h => by rw [headsOf, headsSt] at h; cases h
  | f + 1, n, l, o, [], a, hf, h => by
    rw [headsSt] at h
    by_cases hn : n = 0
    · exact hn
    · rw [if_neg hn, headsOf] at h
      cases h
  | f + 1, n, l, o, c :: r, a, hf, h => by
    rw [headsSt] at h
    by_cases hn : n = 0
    · rw [if_pos hn, headsOf] at h
      cases h
    · rw [if_neg hn, headsOf] at h
      dsimp only at h
      simp only [List.cons.injEq, Prod.mk.injEq] at h
      exact ⟨by omega, by omega, heads_six (by omega) h.2⟩

/-! ### the bytes, block by block -/
theorem headsOf_snoc : ∀ (a : Int) (bs : List (List Doc)) (c : List Doc), headsOf a (bs ++ [c]) = headsOf a bs ++ [((c.length : Int), (endA (endA a bs.flatten) c, ((blkS (endA a bs.flatten) c).length : Int)))]
  | _, [], _ => rfl
  | a, b :: bs, c => by rw [List.cons_append, headsOf, headsOf_snoc, headsOf, List.flatten_cons, endA_app]; rfl
theorem chunks_flat (l : List Doc) : ∀ {k : Nat}, k ≤ blocksN l.length → ((List.range k).map (chunkS l)).flatten = l.take (16 * k)
  | 0, _ => by simp
  | k + 1, h => by
    rw [List.range_succ, List.map_append, List.flatten_append, chunks_flat l (by omega), show 16 * (k + 1) = 16 * k + 16 by omega, List.take_add]
    simp [chunkS]
theorem heads_bytes (l : List Doc) : ∀ {k : Nat}, k ≤ blocksN l.length → hbytes (headsOf 0 ((List.range k).map (chunkS l))) = headsB l 0 k
  | 0, _ => rfl
  | k + 1, h => by
    have hk : 16 * k ≤ l.length := by unfold blocksN at h; omega
    rw [List.range_succ, List.map_append, List.map_singleton, headsOf_snoc, chunks_flat l (by omega), endA_last l hk, chunk_end hk, chunk_bytes hk, headsB_next, ← heads_bytes l (k := k) (by omega)]
    unfold hbytes headB
    rw [List.flatMap_append]
    simp
theorem enc_parts (l : List Doc) {bs : List (List Doc)} (h : bs = (List.range (blocksN l.length)).map (chunkS l)) : encS l = bytesL l.length ++ (hbytes (headsOf 0 bs) ++ bodies 0 bs) ∧ bs.flatten = l := by
  have hf : bs.flatten = l := by
    rw [h, chunks_flat l (Nat.le_refl _), List.take_of_length_le (by unfold blocksN; omega)]
  refine ⟨?_, hf⟩
  rw [bodies_flat, hf, h, heads_bytes l (Nat.le_refl _)]
  unfold encS
  have := blk_range (l := l) 0 (m := l.length) (by omega)
  rw [List.drop_zero, List.take_length, Nat.zero_add] at this
  rw [← this]
  rfl
theorem six_chunks (l : List Doc) : ∀ (m k : Nat), k + m = blocksN l.length → Six (l.length - 16 * k) ((List.range' k m).map (chunkS l))
  | 0, k, h => by show l.length - 16 * k = 0; unfold blocksN at h; omega
  | m + 1, k, h => by
    have hk : 16 * k < l.length := by unfold blocksN at h; omega
    rw [List.range'_succ, List.map_cons]
    refine ⟨by omega, ?_, ?_⟩
    · rw [chunk_len (by omega)]
      unfold endS
      omega
    · have := six_chunks l m (k + 1) (by omega)
      rw [show l.length - 16 * (k + 1) = l.length - 16 * k - 16 by omega] at this
      exact this
theorem six_of (l : List Doc) : Six l.length ((List.range (blocksN l.length)).map (chunkS l)) := by
  have := six_chunks l (blocksN l.length) 0 (by omega)
  rw [List.range_eq_range']
  exact this
theorem six_get : ∀ {n : Nat} {bs : List (List Doc)}, Six n bs → ∀ k, k < bs.length → chunkS bs.flatten k = bs.getD k []
  | n, [], _, k, hk => by simp at hk
  | n, c :: r, h, 0, _ => by
    obtain ⟨h1, h2, h3⟩ := h
    have hl := six_len h3
    unfold chunkS
    rw [List.flatten_cons, Nat.mul_zero, List.drop_zero]
    by_cases h16 : 16 ≤ n
    · rw [List.take_append_of_le_length (by omega), List.take_of_length_le (by omega)]; rfl
    · have : r.flatten = [] := List.eq_nil_of_length_eq_zero (by omega)
      rw [this, List.append_nil, List.take_of_length_le (by omega)]; rfl
  | n, c :: r, h, k + 1, hk => by
    obtain ⟨h1, h2, h3⟩ := h
    have hk' : k < r.length := by simpa using hk
    have h16 : c.length = 16 := by
      by_cases h16 : 16 ≤ n
      · omega
      · have := six_count h3
        omega
    have ih := six_get h3 k hk'
    have e : (c :: r).getD (k + 1) [] = r.getD k [] := by simp
    rw [e, ← ih]
    unfold chunkS
    rw [List.flatten_cons, List.drop_append, List.drop_of_length_le (by omega), h16, List.nil_append, show 16 * (k + 1) - 16 = 16 * k by omega]
theorem six_unique {n : Nat} {bs : List (List Doc)} (h : Six n bs) : bs = (List.range (blocksN bs.flatten.length)).map (chunkS bs.flatten) := by
  have h1 := six_len h
  have h2 := six_count h
  refine List.ext_getElem (by rw [List.length_map, List.length_range, h1, h2]; rfl) fun i hi hi' => ?_
  rw [List.getElem_map, List.getElem_range, six_get h i hi, List.getD_eq_getElem?_getD, List.getElem?_eq_getElem hi]
  rfl

/-! ### the same rows -/
theorem decC_put {l : List Doc} (h : isS l = true) (hf : FitS l) (hm : (encS l).length < 18446744073709551616) : decC (encS l) = some l := by
  obtain ⟨h1, h2⟩ := isS_iff.1 h
  obtain ⟨bs, hbs⟩ : ∃ bs, bs = (List.range (blocksN l.length)).map (chunkS l) := ⟨_, rfl⟩
  obtain ⟨e1, e2⟩ := enc_parts l hbs
  have hs : Six l.length bs := by rw [hbs]; exact six_of l
  have hc := six_count hs
  rw [e1, List.length_append, List.length_append] at hm
  have g1 := heads_put (f := 4096) (a := 0) (bodies 0 bs) hs (by omega) (by rw [e2]; exact h2) (Int.le_refl _) (by omega) (Nat.le_refl _) (by omega)
  have g2 := row_put (a := 0) [] (by rw [e2]; exact h2) (by rw [e2]; exact hf) (Int.le_refl _)
  rw [List.append_nil] at g2
  have : allSt (encS l) = (bs, [], false) := by
    unfold allSt
    rw [e1, num_put h1 (by omega)]
    dsimp only
    rw [g1]
    exact g2
  unfold decC
  rw [this]
  simp [e2]
theorem decC_back {b : List UInt8} {l : List Doc} (h : decC b = some l) : isS l = true ∧ FitS l ∧ encS l = b := by
  unfold decC at h
  by_cases hc : (allSt b).2.2 = true ∨ (allSt b).2.1 ≠ []
  · rw [if_pos hc] at h
    cases h
  · rw [if_neg hc] at h
    obtain rfl := Option.some.inj h
    have e1 : (allSt b).2.2 = false := by
      cases h2 : (allSt b).2.2 with
      | false => rfl
      | true => exact absurd (.inl h2) hc
    have e2 : (allSt b).2.1 = [] := Classical.byContradiction fun h2 => hc (.inr h2)
    unfold allSt at e1 e2 ⊢
    dsimp only at e1 e2 ⊢
    have hn := num_le 65536 b false
    obtain ⟨n, hnn⟩ : ∃ n, (numSt 65536 b false).1 = n := ⟨_, rfl⟩
    have hmay := heads_may 4096 (numSt 65536 b false).1 (numSt 65536 b false).2.1 (numSt 65536 b false).2.2
    obtain ⟨r1, r2, r3, r4, r5⟩ := row_back _ _ _ _ (fun x hx => ⟨by have := (hmay x hx).1; omega, (hmay x hx).2.1, (hmay x hx).2.2.1.2⟩) e1
    obtain ⟨k1, k2⟩ := heads_back 4096 _ _ _ (by omega) r1
    obtain ⟨_, m2⟩ := num_back k1
    have hs := heads_six (by omega) r2
    rw [e2, List.append_nil] at r3
    obtain ⟨q1, _⟩ := enc_parts _ (six_unique hs)
    refine ⟨isS_iff.2 ⟨by rw [six_len hs]; exact hn, r4⟩, r5, ?_⟩
    rw [q1, six_len hs, r2, r3, k2, m2]
/-- What the code decodes is what the reference decodes. -/
theorem decC_same {b : List UInt8} (hb : b.length < 18446744073709551616) : decC b = decS b := by
  cases h : decS b with
  | some l =>
    obtain ⟨h1, h2, h3⟩ := decS_back h
    rw [← h3]
    exact decC_put h1 h2 (by rw [h3]; exact hb)
  | none =>
    cases hc : decC b with
    | none => rfl
    | some l =>
      obtain ⟨h1, h2, h3⟩ := decC_back hc
      rw [← h3, decS_put h1 h2] at h
      cases h
end Go.Proofs.Ythgfaadlnffpcaa.SR
