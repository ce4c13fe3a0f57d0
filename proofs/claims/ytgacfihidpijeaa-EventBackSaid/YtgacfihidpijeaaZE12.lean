/-
  Events in memory: a row of fields, an event's two cells, a row of events. No condition. A row of bytes that grows by append: which blocks turn. Condition: rows stay below 2^47 bytes.
-/
import Derived.Test.YtgacfihidpijeaaZE5
import Derived.Test.YtgacfihidpijeaaZE8
import Derived.Test.YtgacfihidpijeaaZE2
import Derived.Deep.AppendLies
set_option linter.unusedVariables false
namespace Go.Proofs.Ytgacfihidpijeaa.EV
open Go Go.RowKit Go.Proofs.Ytgacfihidpijeaa.MM Go.Proofs.Ytgacfihidpijeaa.EM

def fldC : Codec Fld := cPair cStr cStr
def evC : Codec Ev := cPair cInt (cRow fldC)
def batC : Codec Bat := cPair cInt (cRow evC)
theorem fld_size : fldC.size = 2 := rfl
theorem ev_size : evC.size = 2 := rfl
theorem fld_on {S : Nat → Prop} {w : World} {cs : List Value} {f : Fld} : fldC.on S w cs f ↔ cs = [.string ⟨f.1.toArray⟩, .string ⟨f.2.toArray⟩] := by
  constructor
  · rintro ⟨x, y, rfl, hx, hy⟩
    have hx : x = [.string ⟨f.1.toArray⟩] := hx
    have hy : y = [.string ⟨f.2.toArray⟩] := hy
    rw [hx, hy]; rfl
  · rintro rfl
    exact ⟨[_], [_], rfl, rfl, rfl⟩
theorem ev_on {S : Nat → Prop} {w : World} {cs : List Value} {e : Ev} : evC.on S w cs e ↔ ∃ v, cs = [.int .i64 e.1, v] ∧ ROn fldC S w v e.2 := by
  constructor
  · rintro ⟨x, y, rfl, hx, v, hy, hr⟩
    have hx : x = [.int .i64 e.1] := hx
    exact ⟨v, by rw [hx, hy]; rfl, hr⟩
  · rintro ⟨v, rfl, hr⟩
    exact ⟨[_], [v], rfl, rfl, v, rfl, hr⟩
theorem bat_on {S : Nat → Prop} {w : World} {cs : List Value} {b : Bat} : batC.on S w cs b ↔ ∃ v, cs = [.int .i64 b.1, v] ∧ ROn evC S w v b.2 := by
  constructor
  · rintro ⟨x, y, rfl, hx, v, hy, hr⟩
    have hx : x = [.int .i64 b.1] := hx
    exact ⟨v, by rw [hx, hy]; rfl, hr⟩
  · rintro ⟨v, rfl, hr⟩
    exact ⟨[_], [v], rfl, rfl, v, rfl, hr⟩
/-- The k-th field's two texts. -/
theorem fld_at {S : Nat → Prop} {w : World} {p : Option Addr} {n cap : Nat} {fs : List Fld} (h : ROn fldC S w (.slice p n cap) fs) {k : Nat} (hk : k < fs.length) :
    ∃ b off, p = some ⟨b, off, none⟩ ∧ b < w.heap.size ∧ S b ∧ w.cell? ⟨b, off + k * 2, none⟩ = some (.string ⟨fs[k].1.toArray⟩) ∧ w.cell? ⟨b, off + k * 2 + 1, none⟩ = some (.string ⟨fs[k].2.toArray⟩) := by
  obtain ⟨b, off, vs, hp, hlt, hS, hon, hc⟩ := h.at_ hk
  rw [fld_on] at hon
  subst hon
  exact ⟨b, off, hp, hlt, hS, hc 0 _ rfl, hc 1 _ rfl⟩
/-- The k-th event's time and fields. -/
theorem ev_at {S : Nat → Prop} {w : World} {p : Option Addr} {n cap : Nat} {es : List Ev} (h : ROn evC S w (.slice p n cap) es) {k : Nat} (hk : k < es.length) :
    ∃ b off v, p = some ⟨b, off, none⟩ ∧ b < w.heap.size ∧ S b ∧ w.cell? ⟨b, off + k * 2, none⟩ = some (.int .i64 es[k].1) ∧ w.cell? ⟨b, off + k * 2 + 1, none⟩ = some v ∧ ROn fldC S w v es[k].2 := by
  obtain ⟨b, off, vs, hp, hlt, hS, hon, hc⟩ := h.at_ hk
  rw [ev_on] at hon
  obtain ⟨v, rfl, hr⟩ := hon
  exact ⟨b, off, v, hp, hlt, hS, hc 0 _ rfl, hc 1 _ rfl, hr⟩
theorem str_list (l : List UInt8) : (⟨l.toArray⟩ : ByteArray).data.toList = l := by simp
theorem str_sz (l : List UInt8) : (⟨l.toArray⟩ : ByteArray).size = l.length := by rw [Lib.size_eq]
theorem new_two (w : World) (x y : Value) (t : TypeId) : (w.alloc (.cells #[x, y] t)).cell? ⟨w.heap.size, 0, none⟩ = some x ∧ (w.alloc (.cells #[x, y] t)).cell? ⟨w.heap.size, 1, none⟩ = some y := by
  have h0 := lit_cells w [x, y] t 0 x rfl
  have h1 := lit_cells w [x, y] t 1 y rfl
  rw [add_at] at h0 h1
  exact ⟨h0, h1⟩
end Go.Proofs.Ytgacfihidpijeaa.EV
set_option linter.unusedVariables false
namespace Go.Proofs.Ytgacfihidpijeaa.GB
open Go Go.RowKit Go.Proofs.Ytgacfihidpijeaa.MM

/-- Only the row's own block has turned; the row lies there, or in a new one. -/
def Grown (w w' : World) (v v' : Value) : Prop := w.grownBy w' v.ownBlock ∧ ∀ k, v'.ownBlock = some k → v.ownBlock = some k ∨ w.heap.size ≤ k
theorem grownBy_refl (w : World) (r : Option Nat) : w.grownBy w r := ⟨rfl, rfl, rfl, Nat.le_refl _, fun _ _ _ => rfl⟩
theorem Grown.refl (w : World) (v : Value) : Grown w w v v := ⟨grownBy_refl _ _, fun k h => .inl h⟩
theorem Grown.trans {a b c : World} {u v x : Value} (h : Grown a b u v) (k : Grown b c v x) : Grown a c u x := by
  obtain ⟨h1, h2⟩ := h
  obtain ⟨k1, k2⟩ := k
  refine ⟨⟨k1.os.trans h1.os, k1.tape.trans h1.tape, k1.output.trans h1.output, Nat.le_trans h1.size k1.size, fun i hi hne => ?_⟩, fun i hi => ?_⟩
  · rw [k1.block i (Nat.lt_of_lt_of_le hi h1.size) (fun e => ?_), h1.block i hi hne]
    rcases h2 i e.symm with h | h
    · exact hne h.symm
    · omega
  · rcases k2 i hi with h | h
    · exact h2 i h
    · exact .inr (Nat.le_trans h1.size h)
theorem Grown.kep {w w' : World} {v v' : Value} (h : Grown w w' v v') : Kep (fun b => v.ownBlock ≠ some b) w w' := kep_grown h.1 fun k hk hne => hne hk
theorem Grown.of_below {a b c : World} {u v : Value} (h : Below a.heap.size a b) (k : Grown b c u v) (hu : ∀ i, u.ownBlock = some i → i < a.heap.size) : Grown a c u v :=
  ⟨⟨k.1.os.trans h.os, k.1.tape.trans h.tape, k.1.output.trans h.output, Nat.le_trans h.size k.1.size, fun i hi hne => by rw [k.1.block i (Nat.lt_of_lt_of_le hi h.size) hne, h.block i hi]⟩, fun i hi => by
    rcases k.2 i hi with e | e
    · exact .inl e
    · exact .inr (Nat.le_trans h.size e)⟩
theorem Grown.below {a b c : World} {u v : Value} (h : Grown a b u v) (k : Below b.heap.size b c) : Grown a c u v :=
  ⟨⟨k.os.trans h.1.os, k.tape.trans h.1.tape, k.output.trans h.1.output, Nat.le_trans h.1.size k.size, fun i hi hne => by rw [k.block i (Nat.lt_of_lt_of_le hi h.1.size), h.1.block i hi hne]⟩, h.2⟩
theorem own_lt {w : World} {v : Value} {l : List UInt8} {B : Nat} (h : OwnB B w v l) : ∀ i, v.ownBlock = some i → i < w.heap.size := fun i hi => (World.ownsRow.lt h i hi).2
theorem OwnB.zero {w : World} {v : Value} {l : List UInt8} {B : Nat} (h : OwnB B w v l) : OwnB 0 w v l := OwnB.weaken h (Nat.zero_le _)
theorem OwnB.from {w : World} {v : Value} {l : List UInt8} {B : Nat} (h : OwnB 0 w v l) (hB : ∀ k, v.ownBlock = some k → B ≤ k) : OwnB B w v l := by
  refine ⟨h.1, ?_⟩
  rcases h.2 with h0 | ⟨g, cap, cur, hv, hg, rest⟩
  · exact .inl h0
  · exact .inr ⟨g, cap, cur, hv, hB g (by rw [hv]; rfl), rest⟩
theorem OwnB.kepOwn {S : Nat → Prop} {w w' : World} {v : Value} {l : List UInt8} {B : Nat} (h : OwnB B w v l) (hk : Kep S w w') (hS : ∀ k, v.ownBlock = some k → S k) : OwnB B w' v l := by
  refine ⟨h.1, ?_⟩
  rcases h.2 with h0 | ⟨g, cap, cur, hv, hg, hh, rest⟩
  · exact .inl h0
  · exact .inr ⟨g, cap, cur, hv, hg, by rw [hk.block g (Array.getElem?_eq_some_iff.1 hh).1 (hS g (by rw [hv]; rfl))]; exact hh, rest⟩
/-- What an append leaves. -/
def AppL (l : List UInt8) (v : Value) (w : World) (e : Ending) (w' : World) : Prop := ∃ v', e = .returned v' ∧ OwnB 0 w' v' l ∧ Grown w w' v v'
/-- append(row, b...), b not empty. -/
theorem wpList_append_grown {w : World} {ops : Array Oper} {rest : List Oper} {o : Oper} {a : Act} {Q : Exit → Act → World → Prop} (hgd : o.guard = none) (s x : Operand)
    (ho : o.op = .call { callee := .builtin .append, args := #[s, x], argTypes := #[40, 40] }) (v : Value) (l : List UInt8) (hs : a.eval s = v) (hown : OwnB 0 w v l)
    (src : Value) (m : List UInt8) (hx : a.eval x = src) (hr : BRow w src m) (hm : m ≠ []) (hlen : l.length + m.length ≤ 140737488355328)
    (h : ∀ v' w', OwnB 0 w' v' (l ++ m) → Grown w w' v v' → wpList Try.prog ops Q rest (a.put o.dst v') w') : wpList Try.prog ops Q (o :: rest) a w := by
  obtain ⟨i0, hi, hz0, hz1, hz2⟩ := info_parts infoByte
  have h0 := List.length_pos_iff.2 hm
  obtain ⟨p, cap, rfl, _, _, h3, hc⟩ := hr
  rcases hc with hc | ⟨b, off, rfl, _, hc⟩
  · have := byteCells_len m; rw [hc] at this; simp at this; omega
  · refine wpList_append_lies w hgd s x 40 ho 0 5 i0 (.int .u8 0) 1 1 Try.underlying40 hi hz0 hz1 hz2 rfl (by decide) v l.length (Lib.byteCells l) hs hown ⟨b, off, none⟩ (Lib.byteCells m).length cap (Lib.byteCells m) hx (by simp)
      (fun j u hu => by rw [add_at]; exact hc j u hu) (byteCells_one m) (by rw [byteCells_len]; omega) (by rw [byteCells_len]; unfold maxLen; omega) (by rw [byteCells_len]; omega) (Nat.zero_le _) w.heap.size rfl ?_
    intro g cap' w' hown' hgrow hat _
    refine h _ w' ?_ ⟨hgrow, fun k hk => ?_⟩
    · unfold OwnB
      rw [List.length_append, byteCells_append]
      rw [byteCells_len] at hown' ⊢
      exact hown'
    · simp only [Value.ownBlock, Option.some.injEq] at hk
      subst hk
      rcases hat with h | h
      · exact .inl h
      · exact .inr (Nat.le_of_eq h.symm)
/-- .. as a step. -/
theorem wp_append_grown {w : World} {o : Oper} {a : Act} {K : Act → World → Prop} {Q : Exit → Act → World → Prop} (s x : Operand)
    (ho : o.op = .call { callee := .builtin .append, args := #[s, x], argTypes := #[40, 40] }) (v : Value) (l : List UInt8) (hs : a.eval s = v) (hown : OwnB 0 w v l)
    (src : Value) (m : List UInt8) (hx : a.eval x = src) (hr : BRow w src m) (hm : m ≠ []) (hlen : l.length + m.length ≤ 140737488355328)
    (h : ∀ v' w', OwnB 0 w' v' (l ++ m) → Grown w w' v v' → K (a.put o.dst v') w') : o.wp Try.prog a w K Q := by
  obtain ⟨i0, hi, hz0, hz1, hz2⟩ := info_parts infoByte
  have h0 := List.length_pos_iff.2 hm
  obtain ⟨p, cap, rfl, _, _, h3, hc⟩ := hr
  rcases hc with hc | ⟨b, off, rfl, _, hc⟩
  · have := byteCells_len m; rw [hc] at this; simp at this; omega
  · refine wp_append_lies w s x 40 ho 0 5 i0 (.int .u8 0) 1 1 Try.underlying40 hi hz0 hz1 hz2 rfl (by decide) v l.length (Lib.byteCells l) hs hown ⟨b, off, none⟩ (Lib.byteCells m).length cap (Lib.byteCells m) hx (by simp)
      (fun j u hu => by rw [add_at]; exact hc j u hu) (byteCells_one m) (by rw [byteCells_len]; omega) (by rw [byteCells_len]; unfold maxLen; omega) (by rw [byteCells_len]; omega) (Nat.zero_le _) w.heap.size rfl ?_
    intro g cap' w' hown' hgrow hat _
    refine h _ w' ?_ ⟨hgrow, fun k hk => ?_⟩
    · unfold OwnB
      rw [List.length_append, byteCells_append]
      rw [byteCells_len] at hown' ⊢
      exact hown'
    · simp only [Value.ownBlock, Option.some.injEq] at hk
      subst hk
      rcases hat with h | h
      · exact .inl h
      · exact .inr (Nat.le_of_eq h.symm)
end Go.Proofs.Ytgacfihidpijeaa.GB
