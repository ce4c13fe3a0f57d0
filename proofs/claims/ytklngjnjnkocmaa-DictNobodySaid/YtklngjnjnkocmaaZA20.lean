/-
  The code's shared: how many bytes two texts both begin with. Condition: texts of at most 10^12 bytes. A row of bytes that grows by append: which blocks turn. Condition: rows stay below 2^47 bytes.
-/
import Derived.Test.YtklngjnjnkocmaaZA12
import Derived.Test.YtklngjnjnkocmaaZA19
import Derived.Test.YtklngjnjnkocmaaZA2
import Derived.Deep.AppendLies
set_option linter.unusedVariables false
namespace Go.Proofs.Ytklngjnjnkocmaa.DT
open Go Go.RowKit Go.Proofs.Ytklngjnjnkocmaa.MM Go.Proofs.Ytklngjnjnkocmaa.DM

set_option maxRecDepth 100000 in
set_option maxHeartbeats 2000000 in
theorem shared_any (a b : List UInt8) (w : World) (ha : a.length ≤ 1000000000000) (hb : b.length ≤ 1000000000000) : Calls Try.prog 49 #[.string ⟨a.toArray⟩, .string ⟨b.toArray⟩] w fun e w' => e = .returned (.int .i64 (sharedL a b : Int)) ∧ ∃ m, w' = w.drewN m := by
  obtain ⟨s, hs⟩ : ∃ s : ByteArray, (⟨a.toArray⟩ : ByteArray) = s := ⟨_, rfl⟩
  obtain ⟨t, ht⟩ : ∃ s : ByteArray, (⟨b.toArray⟩ : ByteArray) = s := ⟨_, rfl⟩
  have hls : s.data.toList = a := by rw [← hs]
  have hlt : t.data.toList = b := by rw [← ht]
  rw [hs, ht]
  have HEND := Lib.hid (fun k => @sharedL_at a b k)
  obtain ⟨RES, hRES⟩ : ∃ RES, sharedL a b = RES := ⟨_, rfl⟩
  rw [hRES] at HEND ⊢
  have HS := Lib.hid hls
  have HT := Lib.hid hlt
  have HS1 := Lib.hid (text_size hls)
  have HT1 := Lib.hid (text_size hlt)
  clear hs ht hls hlt hRES
  go_enter Try.func49, Try.ntmps49
  go_wp2_with fail
  go_loopw [5] (fun iv wr => ∃ i : Nat, i ≤ a.length ∧ i ≤ b.length ∧ iv = .int .i64 i ∧ Hid (∀ j, j < i → a[j]? = b[j]?) ∧ Hid (∃ m, wr = w.drewN m)) (fun iv _ => a.length - (intOf iv).toNat)
  case atStart => exact ⟨0, by omega, by omega, rfl, Lib.hid (fun j h => by omega), Lib.hid ⟨0, rfl⟩⟩
  case round =>
    obtain ⟨i, hia, hib, rfl, HI, HB⟩ := hrel
    have e1 := HS1.out
    have e2 := HT1.out
    obtain ⟨M, hM⟩ : ∃ M, min s.size t.size = M := ⟨_, rfl⟩
    have m1 : min (s.size : Int) (t.size : Int) = (M : Int) := by omega
    have m2 : (if t.size < s.size then (t.size : Int) else (s.size : Int)) = (M : Int) := by split <;> omega
    by_cases h0 : i < M
    · have h1 : i < a.length := by omega
      have h2 : i < b.length := by omega
      have q1 : decide ((i : Int) < (M : Int)) = true := by rw [decide_eq_true_eq]; omega
      have q2 : decide (i < M) = true := by rw [decide_eq_true_eq]; omega
      have q5 : i < s.size := by omega
      have q6 : i < t.size := by omega
      obtain ⟨x8, hx8⟩ : ∃ c, a[i]? = some c := ⟨a[i], List.getElem?_eq_getElem h1⟩
      obtain ⟨y8, hy8⟩ : ∃ c, b[i]? = some c := ⟨b[i], List.getElem?_eq_getElem h2⟩
      have hix := text_index HS.out hx8
      have hiy := text_index HT.out hy8
      by_cases hxy : x8 = y8
      · subst hxy
        have HN := Lib.hid (alike_more HI.out hx8 hy8)
        have HH := Lib.hid (And.intro h1 h2)
        generalize x8.toNat = x at *
        clear HI e1 e2 h1 h2 hx8 hy8 hM h0
        go_wp2_with fail
        go_quiet (fail)
        go_wp2_with fail
        have hh := HH.out
        go_roundw
        case rel => exact ⟨i + 1, by omega, by omega, by go_num, HN, Lib.hid (drewN_more HB.out _)⟩
        case measure => simp [intOf]; omega
      · have he := HEND.out i hia hib HI.out (fun _ _ e => hxy (by rw [hx8, hy8] at e; exact Option.some.inj e))
        have q7 : ((x8.toNat : Int) == (y8.toNat : Int)) = false := by rw [beq_eq_false_iff_ne]; exact fun e => hxy (UInt8.toNat_inj.1 (by omega))
        subst he
        generalize x8.toNat = x at *
        generalize y8.toNat = y at *
        clear HI e1 e2 h1 h2 hxy hx8 hy8 hM h0
        go_wp2_with fail
        go_quiet (fail)
        go_wp2_with fail
        go_ret
        exact ⟨rfl, drewN_more HB.out _⟩
    · have q1 : decide ((i : Int) < (M : Int)) = false := by rw [decide_eq_false_iff_not]; omega
      have q2 : decide (i < M) = false := by rw [decide_eq_false_iff_not]; omega
      have he := HEND.out i hia hib HI.out (fun h h' => absurd h0 (by omega))
      subst he
      clear HI e1 e2 h0 hM
      go_wp2_with fail
      go_quiet (fail)
      go_wp2_with fail
      go_ret
      exact ⟨rfl, drewN_more HB.out _⟩
end Go.Proofs.Ytklngjnjnkocmaa.DT
set_option linter.unusedVariables false
namespace Go.Proofs.Ytklngjnjnkocmaa.GB
open Go Go.RowKit Go.Proofs.Ytklngjnjnkocmaa.MM

/-- Only the row's own block has turned; the row lies there, or in a new one. -/
def Grown (w w' : World) (v v' : Value) : Prop := w.grownBy w' v.ownBlock ∧ ∀ k, v'.ownBlock = some k → v.ownBlock = some k ∨ w.heap.size ≤ k
theorem grownBy_refl (w : World) (r : Option Nat) : w.grownBy w r := ⟨rfl, rfl, rfl, Nat.le_refl _, fun _ _ _ => rfl⟩
theorem Grown.refl (w : World) (v : Value) : Grown w w v v := ⟨grownBy_refl _ _, fun k h => .inl h⟩
theorem Grown.trans {a b c : World} {u v x : Value} (h : Grown a b u v) (k : Grown b c v x) : Grown a c u x := by
  obtain ⟨h1, h2⟩ := h
  obtain ⟨k1, k2⟩ := k
  refine ⟨⟨k1.os.trans h1.os, k1.tape.trans h1.tape, k1.output.trans h1.output, Nat.le_trans h1.size k1.size, fun i hi hne => ?_⟩, fun i hi => ?_⟩
  · rw [k1.block i (Nat.lt_of_lt_of_le hi h1.size) (fun e => ?_), h1.block i hi hne]
    rcases h2 i e.symm with h | h
    · exact hne h.symm
    · omega
  · rcases k2 i hi with h | h
    · exact h2 i h
    · exact .inr (Nat.le_trans h1.size h)
theorem Grown.kep {w w' : World} {v v' : Value} (h : Grown w w' v v') : Kep (fun b => v.ownBlock ≠ some b) w w' := kep_grown h.1 fun k hk hne => hne hk
theorem Grown.of_below {a b c : World} {u v : Value} (h : Below a.heap.size a b) (k : Grown b c u v) (hu : ∀ i, u.ownBlock = some i → i < a.heap.size) : Grown a c u v :=
  ⟨⟨k.1.os.trans h.os, k.1.tape.trans h.tape, k.1.output.trans h.output, Nat.le_trans h.size k.1.size, fun i hi hne => by rw [k.1.block i (Nat.lt_of_lt_of_le hi h.size) hne, h.block i hi]⟩, fun i hi => by
    rcases k.2 i hi with e | e
    · exact .inl e
    · exact .inr (Nat.le_trans h.size e)⟩
theorem Grown.below {a b c : World} {u v : Value} (h : Grown a b u v) (k : Below b.heap.size b c) : Grown a c u v :=
  ⟨⟨k.os.trans h.1.os, k.tape.trans h.1.tape, k.output.trans h.1.output, Nat.le_trans h.1.size k.size, fun i hi hne => by rw [k.block i (Nat.lt_of_lt_of_le hi h.1.size), h.1.block i hi hne]⟩, h.2⟩
theorem own_lt {w : World} {v : Value} {l : List UInt8} {B : Nat} (h : OwnB B w v l) : ∀ i, v.ownBlock = some i → i < w.heap.size := fun i hi => (World.ownsRow.lt h i hi).2
theorem OwnB.zero {w : World} {v : Value} {l : List UInt8} {B : Nat} (h : OwnB B w v l) : OwnB 0 w v l := OwnB.weaken h (Nat.zero_le _)
theorem OwnB.from {w : World} {v : Value} {l : List UInt8} {B : Nat} (h : OwnB 0 w v l) (hB : ∀ k, v.ownBlock = some k → B ≤ k) : OwnB B w v l := by
  refine ⟨h.1, ?_⟩
  rcases h.2 with h0 | ⟨g, cap, cur, hv, hg, rest⟩
  · exact .inl h0
  · exact .inr ⟨g, cap, cur, hv, hB g (by rw [hv]; rfl), rest⟩
theorem OwnB.kepOwn {S : Nat → Prop} {w w' : World} {v : Value} {l : List UInt8} {B : Nat} (h : OwnB B w v l) (hk : Kep S w w') (hS : ∀ k, v.ownBlock = some k → S k) : OwnB B w' v l := by
  refine ⟨h.1, ?_⟩
  rcases h.2 with h0 | ⟨g, cap, cur, hv, hg, hh, rest⟩
  · exact .inl h0
  · exact .inr ⟨g, cap, cur, hv, hg, by rw [hk.block g (Array.getElem?_eq_some_iff.1 hh).1 (hS g (by rw [hv]; rfl))]; exact hh, rest⟩
/-- What an append leaves. -/
def AppL (l : List UInt8) (v : Value) (w : World) (e : Ending) (w' : World) : Prop := ∃ v', e = .returned v' ∧ OwnB 0 w' v' l ∧ Grown w w' v v'
/-- append(row, b...), b not empty. -/
theorem wpList_append_grown {w : World} {ops : Array Oper} {rest : List Oper} {o : Oper} {a : Act} {Q : Exit → Act → World → Prop} (hgd : o.guard = none) (s x : Operand)
    (ho : o.op = .call { callee := .builtin .append, args := #[s, x], argTypes := #[23, 23] }) (v : Value) (l : List UInt8) (hs : a.eval s = v) (hown : OwnB 0 w v l)
    (src : Value) (m : List UInt8) (hx : a.eval x = src) (hr : BRow w src m) (hm : m ≠ []) (hlen : l.length + m.length ≤ 140737488355328)
    (h : ∀ v' w', OwnB 0 w' v' (l ++ m) → Grown w w' v v' → wpList Try.prog ops Q rest (a.put o.dst v') w') : wpList Try.prog ops Q (o :: rest) a w := by
  obtain ⟨i0, hi, hz0, hz1, hz2⟩ := info_parts infoByte
  have h0 := List.length_pos_iff.2 hm
  obtain ⟨p, cap, rfl, _, _, h3, hc⟩ := hr
  rcases hc with hc | ⟨b, off, rfl, _, hc⟩
  · have := byteCells_len m; rw [hc] at this; simp at this; omega
  · refine wpList_append_lies w hgd s x 23 ho 0 5 i0 (.int .u8 0) 1 1 Try.underlying23 hi hz0 hz1 hz2 rfl (by decide) v l.length (Lib.byteCells l) hs hown ⟨b, off, none⟩ (Lib.byteCells m).length cap (Lib.byteCells m) hx (by simp)
      (fun j u hu => by rw [add_at]; exact hc j u hu) (byteCells_one m) (by rw [byteCells_len]; omega) (by rw [byteCells_len]; unfold maxLen; omega) (by rw [byteCells_len]; omega) (Nat.zero_le _) w.heap.size rfl ?_
    intro g cap' w' hown' hgrow hat _
    refine h _ w' ?_ ⟨hgrow, fun k hk => ?_⟩
    · unfold OwnB
      rw [List.length_append, byteCells_append]
      rw [byteCells_len] at hown' ⊢
      exact hown'
    · simp only [Value.ownBlock, Option.some.injEq] at hk
      subst hk
      rcases hat with h | h
      · exact .inl h
      · exact .inr (Nat.le_of_eq h.symm)
/-- .. as a step. -/
theorem wp_append_grown {w : World} {o : Oper} {a : Act} {K : Act → World → Prop} {Q : Exit → Act → World → Prop} (s x : Operand)
    (ho : o.op = .call { callee := .builtin .append, args := #[s, x], argTypes := #[23, 23] }) (v : Value) (l : List UInt8) (hs : a.eval s = v) (hown : OwnB 0 w v l)
    (src : Value) (m : List UInt8) (hx : a.eval x = src) (hr : BRow w src m) (hm : m ≠ []) (hlen : l.length + m.length ≤ 140737488355328)
    (h : ∀ v' w', OwnB 0 w' v' (l ++ m) → Grown w w' v v' → K (a.put o.dst v') w') : o.wp Try.prog a w K Q := by
  obtain ⟨i0, hi, hz0, hz1, hz2⟩ := info_parts infoByte
  have h0 := List.length_pos_iff.2 hm
  obtain ⟨p, cap, rfl, _, _, h3, hc⟩ := hr
  rcases hc with hc | ⟨b, off, rfl, _, hc⟩
  · have := byteCells_len m; rw [hc] at this; simp at this; omega
  · refine wp_append_lies w s x 23 ho 0 5 i0 (.int .u8 0) 1 1 Try.underlying23 hi hz0 hz1 hz2 rfl (by decide) v l.length (Lib.byteCells l) hs hown ⟨b, off, none⟩ (Lib.byteCells m).length cap (Lib.byteCells m) hx (by simp)
      (fun j u hu => by rw [add_at]; exact hc j u hu) (byteCells_one m) (by rw [byteCells_len]; omega) (by rw [byteCells_len]; unfold maxLen; omega) (by rw [byteCells_len]; omega) (Nat.zero_le _) w.heap.size rfl ?_
    intro g cap' w' hown' hgrow hat _
    refine h _ w' ?_ ⟨hgrow, fun k hk => ?_⟩
    · unfold OwnB
      rw [List.length_append, byteCells_append]
      rw [byteCells_len] at hown' ⊢
      exact hown'
    · simp only [Value.ownBlock, Option.some.injEq] at hk
      subst hk
      rcases hat with h | h
      · exact .inl h
      · exact .inr (Nat.le_of_eq h.symm)
end Go.Proofs.Ytklngjnjnkocmaa.GB
